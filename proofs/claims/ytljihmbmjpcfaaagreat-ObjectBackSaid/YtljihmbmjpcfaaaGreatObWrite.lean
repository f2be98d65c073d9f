/- The writer of objects' parts. -/
import Derived.Test.YtljihmbmjpcfaaaGreatWrSinkMore
import Derived.Test.YtljihmbmjpcfaaaGreatObLinks
namespace Go.Proofs.YtljihmbmjpcfaaaGreat
open Go.RowKit Go.Shelf Go.Great
set_option maxRecDepth 100000

/-- What a call of the writer leaves. -/
abbrev WOut (w : World) (n₀ g : Nat) (v : Value) (xs : List UInt8) (e : Ending) (W' : World) : Prop := e = .returned (.tuple #[]) ∧ WrSinkWrote w n₀ g v xs W'
set_option maxHeartbeats 1000000 in
theorem wKind_any (w : World) (n₀ g : Nat) (v : Value) (xs : List UInt8) (hn₀ : n₀ ≤ w.heap.size) (hat : WrSinkAt w n₀ g v xs) (k : Nat) (hk : k < 1000) (hlen : xs.length ≤ 100000000) :
    Calls Tryz.prog 48 #[.pointer (some ⟨g, 0, none⟩), .int .i64 k] w (WOut w n₀ g v (xs ++ lebB k)) := by
  have hu : IntKind.u64.wrap (k : Int) = (k : Int) := IntWalk.u64_in _ (by omega)
  go_enter Tryz.func48, Tryz.ntmps48
  go_wp2_with fail
  refine (WrSinkNumber_any g k (by omega) w v xs n₀ hn₀ hat (by omega)).mono ?_
  rintro e w2 ⟨rfl, h2⟩
  go_wp2_with fail
  go_end0
  exact ⟨rfl, h2⟩
set_option maxHeartbeats 1000000 in
theorem wBytes_any (w : World) (n₀ g : Nat) (v : Value) (xs : List UInt8) (hn₀ : n₀ ≤ w.heap.size) (hat : WrSinkAt w n₀ g v xs) (sv : Value) (ys : List UInt8) (hs : Bs w sv ys) (hap : ys ≠ [] → ∀ j, sv.ownBlock = some j → j ≠ g ∧ v.ownBlock ≠ some j) (hlen : xs.length + ys.length ≤ 100000000) :
    Calls Tryz.prog 207 #[.pointer (some ⟨g, 0, none⟩), sv] w (WOut w n₀ g v (xs ++ (lebB ys.length ++ ys))) := by
  have HS := Lib.hid hs
  have HA := Lib.hid hap
  obtain ⟨A, c, rfl, hc⟩ := hs.form
  clear hs hap
  go_enter Tryz.func207, Tryz.ntmps207
  go_wp2_with fail
  refine (WrSinkBytes_any g w v xs n₀ hn₀ hat _ ys HS.out HA.out (by omega)).mono ?_
  rintro e w2 ⟨rfl, h2⟩
  go_wp2_with fail
  go_end0
  exact ⟨rfl, h2⟩
theorem blobWrite_any (w : World) (n₀ g gb : Nat) (v : Value) (xs : List UInt8) (hn₀ : n₀ ≤ w.heap.size) (hat : WrSinkAt w n₀ g v xs) (s : Sl) (ys : List UInt8) (hb : BoxBlob w gb s) (hs : Bs w s.v ys) (hap : ys ≠ [] → ∀ j, s.v.ownBlock = some j → j ≠ g ∧ v.ownBlock ≠ some j) (hlen : xs.length + ys.length ≤ 100000000) :
    Calls Tryz.prog 205 #[.pointer (some ⟨gb, 0, none⟩), .pointer (some ⟨g, 0, none⟩)] w (WOut w n₀ g v (xs ++ (lebB ys.length ++ ys))) := by
  have hc := hb.cell
  have HS := Lib.hid hs
  have HA := Lib.hid hap
  clear hs hap
  go_enter Tryz.func205, Tryz.ntmps205
  go_wp2_with fail
  refine (wBytes_any w n₀ g v xs hn₀ hat s.v ys HS.out HA.out hlen).mono ?_
  rintro e w2 ⟨rfl, h2⟩
  go_wp2_with fail
  go_end0
  exact ⟨rfl, h2⟩
set_option maxHeartbeats 1000000 in
/-- No parts: how many there are, alone. -/
theorem wSevE_none (w : World) (n₀ g : Nat) (v : Value) (xs : List UInt8) (hn₀ : n₀ ≤ w.heap.size) (hat : WrSinkAt w n₀ g v xs) (A : Option Addr) (c : Nat) (f : Value) (hlen : xs.length ≤ 100000000) :
    Calls Tryz.prog 225 #[.pointer (some ⟨g, 0, none⟩), .slice A 0 c, f] w (WOut w n₀ g v (xs ++ [0])) := by
  have hu : IntKind.u64.wrap (0 : Int) = (0 : Int) := by decide
  go_enter Tryz.func225, Tryz.ntmps225
  go_wp2_with fail
  refine (WrSinkNumber_any g 0 (by decide) w v xs n₀ hn₀ hat (by omega)).mono ?_
  rintro e w2 ⟨rfl, h2⟩
  rw [show lebB 0 = [0] by decide] at h2
  go_wp2_with fail
  go_loopw [17] (fun i wr => i = .int .i64 0 ∧ wr = w2) (fun _ _ => 0)
  case atStart => exact ⟨rfl, rfl⟩
  case round =>
    obtain ⟨rfl, rfl⟩ := hrel
    go_wp2_with fail
    go_end0
    exact ⟨rfl, h2⟩
theorem treeWrite_none (w : World) (n₀ g gb : Nat) (v : Value) (xs : List UInt8) (hn₀ : n₀ ≤ w.heap.size) (hat : WrSinkAt w n₀ g v xs) (A : Option Addr) (c : Nat) (hb : Boxed w gb 165 (.slice A 0 c)) (hlen : xs.length ≤ 100000000) :
    Calls Tryz.prog 221 #[.pointer (some ⟨gb, 0, none⟩), .pointer (some ⟨g, 0, none⟩)] w (WOut w n₀ g v (xs ++ [0])) := by
  have hc := hb.cell
  have hmf : ∀ (fn : Fn) (first cap : Array Value) (w : World), (Instr.makeFunc fn first cap).run Tryz.prog w = .ok (.func fn first cap) w := fun _ _ _ _ => rfl
  go_enter Tryz.func221, Tryz.ntmps221
  go_wp2_with fail
  refine (wSevE_none w n₀ g v xs hn₀ hat A c _ hlen).mono ?_
  rintro e w2 ⟨rfl, h2⟩
  go_wp2_with fail
  go_end0
  exact ⟨rfl, h2⟩
end Go.Proofs.YtljihmbmjpcfaaaGreat
