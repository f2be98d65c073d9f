/- reading: with an error all is left as it was; Number, Bytes, Raw of a Source. Bytes and Raw of a Source. -/
import Derived.Test.YtljihmbmjpcfaaaGreatLebAny
import Derived.Defers
import Derived.Recover
namespace Go.Proofs.YtljihmbmjpcfaaaGreat
open Go.RowKit

set_option maxHeartbeats 400000 in
theorem SrcNumber1_any (w : World) (g : Nat) (v : Value) (xs : List UInt8) (hat : SourceAt w g v xs) (hlen : xs.length ≤ 140737488355328) (most Bq Bm : Nat) (hBs : Boxed w Bq 101 (.pointer (some ⟨g, 0, none⟩))) (hBm : Boxed w Bm 76 (.int .u64 most)) :
    Calls Tryz.prog 148 #[.pointer (some ⟨Bq, 0, none⟩), .pointer (some ⟨Bm, 0, none⟩)] w (NumOut w g v (numRes most xs)) := by
  have hc1 := hBs.cell
  have hc2 := hBm.cell
  go_enter Tryz.func148, Tryz.ntmps148
  go_wp2_with fail
  refine (srcnumber_any w g v xs hat hlen most).mono ?_
  rintro e w1 ⟨rfl, hrd⟩
  go_wp2
  go_ret2
  exact ⟨rfl, hrd⟩

set_option maxHeartbeats 400000 in
/-- The deferred closure: with an error, all is left as it was. -/
theorem readingN1_err (w : World) (u : FrameMode) (g Be Bl Bq : Nat) (er : Int) (v x : Value) (her : (er != 0) = true) (h1 : Boxed w Be 33 (.int .i64 er)) (h2 : Boxed w Bl 22 v) (h3 : Boxed w Bq 101 (.pointer (some ⟨g, 0, none⟩))) (h4 : Boxed w g 159 x) (hv : ∃ A n c, v = .slice A n c) :
    CallsD Tryz.prog 174 #[.pointer (some ⟨Be, 0, none⟩), .pointer (some ⟨Bl, 0, none⟩), .pointer (some ⟨Bq, 0, none⟩)] u w fun e u' w' => u' = u ∧ (e = .returned (.tuple #[]) ∧ w' = w.setCell ⟨g, 0, none⟩ v) := by
  obtain ⟨A, n, c, rfl⟩ := hv
  have c1 := h1.cell
  have c2 := h2.cell
  have c3 := h3.cell
  have c4 := h4.cell
  have f4 := h4.frozen
  go_enter_d Tryz.func174, Tryz.ntmps174
  go_wp2
  go_end0
  exact ⟨rfl, rfl⟩
set_option maxHeartbeats 400000 in
theorem readingN1_ok (w : World) (u : FrameMode) (Be Bl Bq : Nat) (h1 : Boxed w Be 33 (.int .i64 0)) :
    CallsD Tryz.prog 174 #[.pointer (some ⟨Be, 0, none⟩), .pointer (some ⟨Bl, 0, none⟩), .pointer (some ⟨Bq, 0, none⟩)] u w fun e u' w' => u' = u ∧ (e = .returned (.tuple #[]) ∧ w' = w) := by
  have c1 := h1.cell
  go_enter_d Tryz.func174, Tryz.ntmps174
  go_wp2
  go_end0
  exact ⟨rfl, rfl⟩

/-- With an error all is left as it was. -/
def back {α : Type} (xs : List UInt8) (r : Int × α × List UInt8) : Int × α × List UInt8 := (r.1, r.2.1, if r.1 = 0 then r.2.2 else xs)

theorem SourceRead.restored {w w3 w4 : World} {g n : Nat} {v v4 u : Value} {xs rest : List UInt8} (hat : SourceAt w g v xs) (h3 : Kept (fun _ => False) w w3) (hn : w.heap.size ≤ n) (hat4 : SourceAt w4 g v4 rest) (hk4 : Kept (fun j => j = g) w3 w4) :
    SourceRead w g v xs ((w4.setCell ⟨n, 0, none⟩ u).setCell ⟨g, 0, none⟩ v) := by
  have hlt := hat.box.lt
  have k1 : Kept (fun j => j = g) w w4 := (h3.mono (T' := fun j => j = g) (fun _ _ h => h.elim)).same hk4
  have k2 : Kept (fun j => j = g) w ((w4.setCell ⟨n, 0, none⟩ u).setCell ⟨g, 0, none⟩ v) := (k1.setCell (p := ⟨n, 0, none⟩) (fun h => absurd h (by simp; omega)) u).setCell (p := ⟨g, 0, none⟩) (fun _ => rfl) v
  exact ⟨v, ⟨(hat4.box.other (by omega) u).set v, k2.bs hat.bytes (fun j hj => (hat.row j hj).2), fun j hj => ⟨Nat.lt_of_lt_of_le (hat.row j hj).1 k2.size, (hat.row j hj).2⟩⟩, k2, rfl⟩
theorem SourceRead.carried {w w3 w4 : World} {g n : Nat} {v v4 u : Value} {xs rest : List UInt8} (hat : SourceAt w g v xs) (h3 : Kept (fun _ => False) w w3) (hn : w.heap.size ≤ n) (hat4 : SourceAt w4 g v4 rest) (hk4 : Kept (fun j => j = g) w3 w4) (hv4 : v4.ownBlock = v.ownBlock) :
    SourceRead w g v rest (w4.setCell ⟨n, 0, none⟩ u) := by
  have hlt := hat.box.lt
  have k1 : Kept (fun j => j = g) w w4 := (h3.mono (T' := fun j => j = g) (fun _ _ h => h.elim)).same hk4
  exact ⟨v4, hat4.kept (T := fun j => j = n) ((Kept.refl (fun j => j = n) w4).setCell (p := ⟨n, 0, none⟩) (fun _ => rfl) u) (by omega) (fun j hj => by have := (hat.row j (hv4 ▸ hj)).1; omega), k1.setCell (p := ⟨n, 0, none⟩) (fun h => absurd h (by simp; omega)) u, hv4⟩

set_option maxHeartbeats 1000000 in
theorem readingN_any (w : World) (g : Nat) (v : Value) (xs : List UInt8) (hat : SourceAt w g v xs) (hlen : xs.length ≤ 140737488355328) (most Bq Bm : Nat) (hBs : Boxed w Bq 101 (.pointer (some ⟨g, 0, none⟩))) (hBm : Boxed w Bm 76 (.int .u64 most)) :
    Calls Tryz.prog 147 #[.pointer (some ⟨g, 0, none⟩), .func (.func 148) #[] #[.pointer (some ⟨Bq, 0, none⟩), .pointer (some ⟨Bm, 0, none⟩)]] w (NumOut w g v (back xs (numRes most xs))) := by
  have hcall := fun W (h1 : SourceAt W g v xs) (h2 : Boxed W Bq 101 (.pointer (some ⟨g, 0, none⟩))) (h3 : Boxed W Bm 76 (.int .u64 most)) => SrcNumber1_any W g v xs h1 hlen most Bq Bm h2 h3
  generalize numRes most xs = r at *
  obtain ⟨er, m, rest⟩ := r
  have HC := Lib.hid hcall
  clear hcall
  obtain ⟨A, c, rfl, hc⟩ := hat.bytes.form
  have hb2 := (hat.box.alloc (.cells #[.pointer (some ⟨g, 0, none⟩)] 101)).alloc (.cells #[.int .i64 0] 33)
  have hcc := hb2.cell
  have hmf : ∀ (fn : Fn) (first cap : Array Value) (w : World), (Instr.makeFunc fn first cap).run Tryz.prog w = .ok (.func fn first cap) w := fun _ _ _ _ => rfl
  have hlt := hat.box.lt
  have hlt' : ¬ w.heap.size = g := by omega
  go_enter_defers Tryz.func147, Tryz.ntmps147
  go_wp2_with fail
  have hK3 : Kept (fun _ => False) w (((w.alloc (.cells #[.pointer (some ⟨g, 0, none⟩)] 101)).alloc (.cells #[.int .i64 0] 33)).alloc (.cells #[.slice A xs.length c] 22)) := (((Kept.refl _ _).alloc _).alloc _).alloc _
  have bQ3 := ((Boxed.new w 101 (.pointer (some ⟨g, 0, none⟩))).alloc (.cells #[.int .i64 0] 33)).alloc (.cells #[.slice A xs.length c] 22)
  have bE3 := (Boxed.new (w.alloc (.cells #[.pointer (some ⟨g, 0, none⟩)] 101)) 33 (.int .i64 0)).alloc (.cells #[.slice A xs.length c] 22)
  have bL3 := Boxed.new ((w.alloc (.cells #[.pointer (some ⟨g, 0, none⟩)] 101)).alloc (.cells #[.int .i64 0] 33)) 22 (.slice A xs.length c)
  simp only [World.size_alloc] at bE3 bL3
  refine (HC.out _ (hat.kept hK3 (fun h => h) (fun _ _ h => h)) (hK3.boxed hBs (fun h => h)) (hK3.boxed hBm (fun h => h))).mono ?_
  generalize ((w.alloc (.cells #[.pointer (some ⟨g, 0, none⟩)] 101)).alloc (.cells #[.int .i64 0] 33)).alloc (.cells #[.slice A xs.length c] 22) = w3 at *
  rintro e w4 ⟨rfl, v4, hat4, hk4, hv4⟩
  have bQ4 := hk4.boxed bQ3 hlt'
  have bE4 := hk4.boxed bE3 (by omega)
  have bL4 := hk4.boxed bL3 (by omega)
  have cE4 := bE4.cell
  have fE4 := bE4.frozen
  have HV := Lib.hid hv4
  clear hv4
  dsimp only
  go_wp2
  have bQ5 := bQ4.other (B' := w.heap.size + 1) (by omega) (.int .i64 er)
  have bE5 := bE4.set (.int .i64 er)
  have bL5 := bL4.other (B' := w.heap.size + 1) (by omega) (.int .i64 er)
  have bg5 := hat4.box.other (B' := w.heap.size + 1) (by omega) (.int .i64 er)
  have cE5 := bE5.cell
  by_cases h0 : er = 0
  · subst h0
    refine leaves_cons (f := 174) (args := #[.pointer (some ⟨w.heap.size + 1, 0, none⟩), .pointer (some ⟨w.heap.size + 1 + 1, 0, none⟩), .pointer (some ⟨w.heap.size, 0, none⟩)]) (by simp) (by simp [go_sem]) ?_
    refine (readingN1_ok _ .returning _ _ _ bE5).mono ?_
    rintro e u' w'' ⟨rfl, rfl, rfl⟩
    refine ⟨.tuple #[.int .u64 m, .int .i64 0], by simp [results, Tryz.results147, go_sem, cE5], rfl, ?_⟩
    exact SourceRead.carried hat hK3 (by omega) hat4 hk4 HV.out
  · refine leaves_cons (f := 174) (args := #[.pointer (some ⟨w.heap.size + 1, 0, none⟩), .pointer (some ⟨w.heap.size + 1 + 1, 0, none⟩), .pointer (some ⟨w.heap.size, 0, none⟩)]) (by simp) (by simp [go_sem]) ?_
    refine (readingN1_err _ .returning g _ _ _ er _ _ (by simp [h0]) bE5 bL5 bQ5 bg5 ⟨_, _, _, rfl⟩).mono ?_
    rintro e u' w'' ⟨rfl, rfl, rfl⟩
    have cE6 := (bE5.other (B' := g) (by omega) (.slice A xs.length c)).cell
    refine ⟨.tuple #[.int .u64 m, .int .i64 er], by simp [results, Tryz.results147, go_sem, cE6], rfl, ?_⟩
    simp only [back, h0, if_false]
    exact SourceRead.restored hat hK3 (by omega) hat4 hk4

set_option maxHeartbeats 400000 in
theorem readingN_none (f : Value) (w : World) : Calls Tryz.prog 147 #[.pointer none, f] w fun e W' => e = .returned (.tuple #[.int .u64 0, .int .i64 1]) ∧ Below w.heap.size w W' := by
  go_enter_defers Tryz.func147, Tryz.ntmps147
  go_wp2
  refine ⟨.tuple #[.int .u64 0, .int .i64 1], by simp [results, Tryz.results147, go_sem], rfl, ?_⟩
  exact (((Below.refl _ w).alloc (Nat.le_refl _) _).alloc (by simp) _)

/-- Number of a Source. -/
def SrcOut (w : World) (g : Nat) (v : Value) (r : Int × Nat × List UInt8) (e : Ending) (W' : World) : Prop := NumOut w g v r e W'

set_option maxHeartbeats 400000 in
theorem SrcNumber_any (w : World) (g : Nat) (v : Value) (xs : List UInt8) (hat : SourceAt w g v xs) (hlen : xs.length ≤ 140737488355328) (most : Nat) :
    Calls Tryz.prog 114 #[.pointer (some ⟨g, 0, none⟩), .int .u64 most] w (NumOut w g v (back xs (numRes most xs))) := by
  have hmf : ∀ (fn : Fn) (first cap : Array Value) (w : World), (Instr.makeFunc fn first cap).run Tryz.prog w = .ok (.func fn first cap) w := fun _ _ _ _ => rfl
  have hlt := hat.box.lt
  go_enter Tryz.func114, Tryz.ntmps114
  go_wp2_with fail
  have hK3 : Kept (fun _ => False) w ((w.alloc (.cells #[.pointer (some ⟨g, 0, none⟩)] 101)).alloc (.cells #[.int .u64 most] 76)) := ((Kept.refl _ _).alloc _).alloc _
  have bQ3 := (Boxed.new w 101 (.pointer (some ⟨g, 0, none⟩))).alloc (.cells #[.int .u64 most] 76)
  have bM3 := Boxed.new (w.alloc (.cells #[.pointer (some ⟨g, 0, none⟩)] 101)) 76 (.int .u64 most)
  simp only [World.size_alloc] at bM3
  refine (readingN_any _ g v xs (hat.kept hK3 (fun h => h) (fun _ _ h => h)) hlen most _ _ bQ3 bM3).mono ?_
  generalize ((w.alloc (.cells #[.pointer (some ⟨g, 0, none⟩)] 101)).alloc (.cells #[.int .u64 most] 76)) = w3 at *
  generalize back xs (numRes most xs) = r at *
  rintro e w4 ⟨rfl, v4, hat4, hk4, hv4⟩
  have HV := Lib.hid hv4
  clear hv4
  go_wp2
  go_ret2
  exact ⟨rfl, v4, hat4, (hK3.mono (T' := fun j => j = g) (fun _ _ h => h.elim)).same hk4, HV.out⟩

set_option maxHeartbeats 400000 in
theorem SrcNumber_none (most : Int) (w : World) : Calls Tryz.prog 114 #[.pointer none, .int .u64 most] w fun e W' => e = .returned (.tuple #[.int .u64 0, .int .i64 1]) ∧ Below w.heap.size w W' := by
  have hmf : ∀ (fn : Fn) (first cap : Array Value) (w : World), (Instr.makeFunc fn first cap).run Tryz.prog w = .ok (.func fn first cap) w := fun _ _ _ _ => rfl
  go_enter Tryz.func114, Tryz.ntmps114
  go_wp2_with fail
  refine (readingN_none _ _).mono ?_
  rintro e w4 ⟨rfl, h4⟩
  go_wp2
  go_ret2
  exact ⟨rfl, (((Below.refl _ w).alloc (Nat.le_refl _) _).alloc (by simp) _).trans (h4.mono (by simp; omega))⟩
end Go.Proofs.YtljihmbmjpcfaaaGreat
namespace Go.Proofs.YtljihmbmjpcfaaaGreat
open Go.RowKit

set_option maxHeartbeats 400000 in
theorem SrcRaw1_any (w : World) (g : Nat) (v : Value) (xs : List UInt8) (hat : SourceAt w g v xs) (hlen : xs.length ≤ 140737488355328) (n : Int) (Bq Bm : Nat) (hBs : Boxed w Bq 101 (.pointer (some ⟨g, 0, none⟩))) (hBm : Boxed w Bm 3 (.int .i64 n)) :
    Calls Tryz.prog 239 #[.pointer (some ⟨Bq, 0, none⟩), .pointer (some ⟨Bm, 0, none⟩)] w (RawOut w g v (rawRes n xs).1 (rawRes n xs).2.1 (rawRes n xs).2.2) := by
  have hc1 := hBs.cell
  have hc2 := hBm.cell
  go_enter Tryz.func239, Tryz.ntmps239
  go_wp2_with fail
  refine (srcraw_any w g v xs hat hlen n).mono ?_
  rintro e w1 ⟨r, rfl, hrow, hrd⟩
  go_wp2
  go_ret2
  exact ⟨r, rfl, hrow, hrd⟩

/-- What Bytes tells. -/
def bytesRes (most : Int) (xs : List UInt8) : Int × List UInt8 × List UInt8 :=
  if (numRes most.toNat xs).1 ≠ 0 then ((numRes most.toNat xs).1, [], (numRes most.toNat xs).2.2) else rawRes ((numRes most.toNat xs).2.1 : Int) (numRes most.toNat xs).2.2

theorem RawOut.chain {w w1 : World} {g : Nat} {v v1 : Value} {er : Int} {ys rest : List UInt8} {e : Ending} {W' : World} (hk : Kept (fun j => j = g) w w1) (hv : v1.ownBlock = v.ownBlock) (h : RawOut w1 g v1 er ys rest e W') : RawOut w g v er ys rest e W' := by
  obtain ⟨r, he, hrow, v2, hat2, hk2, hv2⟩ := h
  exact ⟨r, he, owns_base hrow hk.size, v2, hat2, hk.same hk2, hv2.trans hv⟩

theorem numRes_le {most : Nat} {xs : List UInt8} (h : (numRes most xs).1 = 0) : (numRes most xs).2.1 ≤ most := by
  unfold numRes at h ⊢
  split at h
  · rename_i h1; exact absurd h h1
  · split at h
    · cases h
    · rw [if_neg (by assumption), if_neg (by assumption)]; simp; omega
theorem numRes_left (most : Nat) (xs : List UInt8) : (numRes most xs).2.2.length ≤ xs.length := by
  have := scan_le xs 0 0
  unfold numRes
  split
  · exact this
  · split <;> exact this

set_option maxHeartbeats 400000 in
theorem SrcBytes1_pos (w : World) (g : Nat) (v : Value) (xs : List UInt8) (hat : SourceAt w g v xs) (hlen : xs.length ≤ 140737488355328) (n k : Int) (hk : (n = k ∧ 0 ≤ n) ∨ (n < 0 ∧ k = 0)) (hn : n ≤ 9223372036854775807) (Bq Bm : Nat) (hBs : Boxed w Bq 101 (.pointer (some ⟨g, 0, none⟩))) (hBm : Boxed w Bm 3 (.int .i64 n)) (hq : Bq ≠ g) :
    Calls Tryz.prog 213 #[.pointer (some ⟨Bq, 0, none⟩), .pointer (some ⟨Bm, 0, none⟩)] w (RawOut w g v (bytesRes n xs).1 (bytesRes n xs).2.1 (bytesRes n xs).2.2) := by
  have hc1 := hBs.cell
  have hc2 := hBm.cell
  have hkk : n.toNat = k.toNat := by omega
  have hcall : Calls Tryz.prog 149 #[.pointer (some ⟨g, 0, none⟩), .int .u64 k] w (NumOut w g v (numRes n.toNat xs)) := by
    have h := srcnumber_any w g v xs hat hlen n.toNat
    rw [show ((n.toNat : Nat) : Int) = k by omega] at h
    exact h
  have hle := numRes_le (most := n.toNat) (xs := xs)
  have hrl := numRes_left n.toNat xs
  have hres : bytesRes n xs = if (numRes n.toNat xs).1 ≠ 0 then ((numRes n.toNat xs).1, [], (numRes n.toNat xs).2.2) else rawRes ((numRes n.toNat xs).2.1 : Int) (numRes n.toNat xs).2.2 := rfl
  rw [hres]
  clear hres
  generalize numRes n.toNat xs = r at *
  obtain ⟨er, m, rest⟩ := r
  dsimp only at hle hrl hcall ⊢
  have HL := Lib.hid hle
  have HC := Lib.hid hcall
  clear hle hcall hkk
  by_cases he : er = 0
  · subst he
    have hmle := HL.out rfl
    rw [if_neg (by simp)]
    have hm1 : (m : Int) ≤ 9223372036854775807 := by omega
    rcases hk with ⟨rfl, h0⟩ | ⟨h0, rfl⟩
    all_goals
      go_enter Tryz.func213, Tryz.ntmps213
      go_wp2_with fail
      refine HC.out.mono ?_
      rintro e w1 ⟨rfl, v1, hat1, hk1, hv1⟩
      have HV := Lib.hid hv1
      clear hv1
      dsimp only at hat1 ⊢
      have hc3 := (hk1.boxed hBs hq).cell
      clear hc1
      go_wp2_with fail
      refine (srcraw_any w1 g v1 rest hat1 (by omega) m).mono ?_
      intro e w2 hraw
      obtain ⟨r, rfl, hrow, hrd⟩ := RawOut.chain hk1 HV.out hraw
      clear hraw
      go_wp2
      go_ret2
      exact ⟨r, rfl, hrow, hrd⟩
  · have hne : (er != 0) = true := by simp [he]
    rw [if_pos he]
    rcases hk with ⟨rfl, h0⟩ | ⟨h0, rfl⟩
    all_goals
      go_enter Tryz.func213, Tryz.ntmps213
      go_wp2_with fail
      refine HC.out.mono ?_
      rintro e w1 ⟨rfl, v1, hat1, hk1, hv1⟩
      have HV := Lib.hid hv1
      clear hv1
      dsimp only at hat1 ⊢
      go_wp2
      go_ret2
      exact ⟨_, rfl, World.ownsRow_nil _ _ _ _, v1, hat1, hk1, HV.out⟩

theorem SrcBytes1_any (w : World) (g : Nat) (v : Value) (xs : List UInt8) (hat : SourceAt w g v xs) (hlen : xs.length ≤ 140737488355328) (n : Int) (hn : n ≤ 9223372036854775807) (Bq Bm : Nat) (hBs : Boxed w Bq 101 (.pointer (some ⟨g, 0, none⟩))) (hBm : Boxed w Bm 3 (.int .i64 n)) (hq : Bq ≠ g) (_ : Bm ≠ g) :
    Calls Tryz.prog 213 #[.pointer (some ⟨Bq, 0, none⟩), .pointer (some ⟨Bm, 0, none⟩)] w (RawOut w g v (bytesRes n xs).1 (bytesRes n xs).2.1 (bytesRes n xs).2.2) := by
  by_cases h : 0 ≤ n
  · exact SrcBytes1_pos w g v xs hat hlen n n (.inl ⟨rfl, h⟩) hn Bq Bm hBs hBm hq
  · exact SrcBytes1_pos w g v xs hat hlen n 0 (.inr ⟨by omega, rfl⟩) hn Bq Bm hBs hBm hq

set_option maxHeartbeats 400000 in
/-- The deferred closure: with an error, all is left as it was. -/
theorem readingB1_err (w : World) (u : FrameMode) (g Be Bl Bq : Nat) (er : Int) (v x : Value) (her : (er != 0) = true) (h1 : Boxed w Be 33 (.int .i64 er)) (h2 : Boxed w Bl 22 v) (h3 : Boxed w Bq 101 (.pointer (some ⟨g, 0, none⟩))) (h4 : Boxed w g 159 x) (hv : ∃ A n c, v = .slice A n c) :
    CallsD Tryz.prog 216 #[.pointer (some ⟨Be, 0, none⟩), .pointer (some ⟨Bl, 0, none⟩), .pointer (some ⟨Bq, 0, none⟩)] u w fun e u' w' => u' = u ∧ (e = .returned (.tuple #[]) ∧ w' = w.setCell ⟨g, 0, none⟩ v) := by
  obtain ⟨A, n, c, rfl⟩ := hv
  have c1 := h1.cell
  have c2 := h2.cell
  have c3 := h3.cell
  have c4 := h4.cell
  have f4 := h4.frozen
  go_enter_d Tryz.func216, Tryz.ntmps216
  go_wp2
  go_end0
  exact ⟨rfl, rfl⟩
set_option maxHeartbeats 400000 in
theorem readingB1_ok (w : World) (u : FrameMode) (Be Bl Bq : Nat) (h1 : Boxed w Be 33 (.int .i64 0)) :
    CallsD Tryz.prog 216 #[.pointer (some ⟨Be, 0, none⟩), .pointer (some ⟨Bl, 0, none⟩), .pointer (some ⟨Bq, 0, none⟩)] u w fun e u' w' => u' = u ∧ (e = .returned (.tuple #[]) ∧ w' = w) := by
  have c1 := h1.cell
  go_enter_d Tryz.func216, Tryz.ntmps216
  go_wp2
  go_end0
  exact ⟨rfl, rfl⟩

set_option maxHeartbeats 1000000 in
theorem readingB_SrcRaw (w : World) (g : Nat) (v : Value) (xs : List UInt8) (hat : SourceAt w g v xs) (hlen : xs.length ≤ 140737488355328) (n : Int) (Bq Bm : Nat) (hBs : Boxed w Bq 101 (.pointer (some ⟨g, 0, none⟩))) (hBm : Boxed w Bm 3 (.int .i64 n)) :
    Calls Tryz.prog 212 #[.pointer (some ⟨g, 0, none⟩), .func (.func 239) #[] #[.pointer (some ⟨Bq, 0, none⟩), .pointer (some ⟨Bm, 0, none⟩)]] w (RawOut w g v (back xs (rawRes n xs)).1 (back xs (rawRes n xs)).2.1 (back xs (rawRes n xs)).2.2) := by
  have hcall := fun W (h1 : SourceAt W g v xs) (h2 : Boxed W Bq 101 (.pointer (some ⟨g, 0, none⟩))) (h3 : Boxed W Bm 3 (.int .i64 n)) => SrcRaw1_any W g v xs h1 hlen n Bq Bm h2 h3
  generalize rawRes n xs = r at *
  obtain ⟨er, ys, rest⟩ := r
  have HC := Lib.hid hcall
  clear hcall
  obtain ⟨A, c, rfl, hc⟩ := hat.bytes.form
  have hb2 := (hat.box.alloc (.cells #[.pointer (some ⟨g, 0, none⟩)] 101)).alloc (.cells #[.int .i64 0] 33)
  have hcc := hb2.cell
  have hmf : ∀ (fn : Fn) (first cap : Array Value) (w : World), (Instr.makeFunc fn first cap).run Tryz.prog w = .ok (.func fn first cap) w := fun _ _ _ _ => rfl
  have hlt := hat.box.lt
  have hlt' : ¬ w.heap.size = g := by omega
  go_enter_defers Tryz.func212, Tryz.ntmps212
  go_wp2_with fail
  have hK3 : Kept (fun _ => False) w (((w.alloc (.cells #[.pointer (some ⟨g, 0, none⟩)] 101)).alloc (.cells #[.int .i64 0] 33)).alloc (.cells #[.slice A xs.length c] 22)) := (((Kept.refl _ _).alloc _).alloc _).alloc _
  have bQ3 := ((Boxed.new w 101 (.pointer (some ⟨g, 0, none⟩))).alloc (.cells #[.int .i64 0] 33)).alloc (.cells #[.slice A xs.length c] 22)
  have bE3 := (Boxed.new (w.alloc (.cells #[.pointer (some ⟨g, 0, none⟩)] 101)) 33 (.int .i64 0)).alloc (.cells #[.slice A xs.length c] 22)
  have bL3 := Boxed.new ((w.alloc (.cells #[.pointer (some ⟨g, 0, none⟩)] 101)).alloc (.cells #[.int .i64 0] 33)) 22 (.slice A xs.length c)
  simp only [World.size_alloc] at bE3 bL3
  refine (HC.out _ (hat.kept hK3 (fun h => h) (fun _ _ h => h)) (hK3.boxed hBs (fun h => h)) (hK3.boxed hBm (fun h => h))).mono ?_
  generalize ((w.alloc (.cells #[.pointer (some ⟨g, 0, none⟩)] 101)).alloc (.cells #[.int .i64 0] 33)).alloc (.cells #[.slice A xs.length c] 22) = w3 at *
  rintro e w4 ⟨r, rfl, hrow, v4, hat4, hk4, hv4⟩
  obtain ⟨A1, n1, c1, rfl⟩ := owns_slice hrow
  have bQ4 := hk4.boxed bQ3 hlt'
  have bE4 := hk4.boxed bE3 (by omega)
  have bL4 := hk4.boxed bL3 (by omega)
  have cE4 := bE4.cell
  have fE4 := bE4.frozen
  have HV := Lib.hid hv4
  clear hv4
  dsimp only
  go_wp2
  have bQ5 := bQ4.other (B' := w.heap.size + 1) (by omega) (.int .i64 er)
  have bE5 := bE4.set (.int .i64 er)
  have bL5 := bL4.other (B' := w.heap.size + 1) (by omega) (.int .i64 er)
  have bg5 := hat4.box.other (B' := w.heap.size + 1) (by omega) (.int .i64 er)
  have cE5 := bE5.cell
  by_cases h0 : er = 0
  · subst h0
    refine leaves_cons (f := 216) (args := #[.pointer (some ⟨w.heap.size + 1, 0, none⟩), .pointer (some ⟨w.heap.size + 1 + 1, 0, none⟩), .pointer (some ⟨w.heap.size, 0, none⟩)]) (by simp) (by simp [go_sem]) ?_
    refine (readingB1_ok _ .returning _ _ _ bE5).mono ?_
    rintro e u' w'' ⟨rfl, rfl, rfl⟩
    refine ⟨.tuple #[.slice A1 n1 c1, .int .i64 0], by simp [results, Tryz.results212, go_sem, cE5], _, rfl, ?_, ?_⟩
    · exact owns_set (owns_base hrow hK3.size) bE4 (by decide) _
    · exact SourceRead.carried hat hK3 (by omega) hat4 hk4 HV.out
  · refine leaves_cons (f := 216) (args := #[.pointer (some ⟨w.heap.size + 1, 0, none⟩), .pointer (some ⟨w.heap.size + 1 + 1, 0, none⟩), .pointer (some ⟨w.heap.size, 0, none⟩)]) (by simp) (by simp [go_sem]) ?_
    refine (readingB1_err _ .returning g _ _ _ er _ _ (by simp [h0]) bE5 bL5 bQ5 bg5 ⟨_, _, _, rfl⟩).mono ?_
    rintro e u' w'' ⟨rfl, rfl, rfl⟩
    have cE6 := (bE5.other (B' := g) (by omega) (.slice A xs.length c)).cell
    refine ⟨.tuple #[.slice A1 n1 c1, .int .i64 er], by simp [results, Tryz.results212, go_sem, cE6], _, rfl, ?_, ?_⟩
    · exact owns_set (owns_set (owns_base hrow hK3.size) bE4 (by decide) _) bg5 (by decide) _
    · simp only [back, h0, if_false]
      exact SourceRead.restored hat hK3 (by omega) hat4 hk4

set_option maxHeartbeats 1000000 in
theorem readingB_SrcBytes (w : World) (g : Nat) (v : Value) (xs : List UInt8) (hat : SourceAt w g v xs) (hlen : xs.length ≤ 140737488355328) (n : Int) (hn : n ≤ 9223372036854775807) (Bq Bm : Nat) (hBs : Boxed w Bq 101 (.pointer (some ⟨g, 0, none⟩))) (hBm : Boxed w Bm 3 (.int .i64 n)) (hq : Bq ≠ g) (hm : Bm ≠ g) :
    Calls Tryz.prog 212 #[.pointer (some ⟨g, 0, none⟩), .func (.func 213) #[] #[.pointer (some ⟨Bq, 0, none⟩), .pointer (some ⟨Bm, 0, none⟩)]] w (RawOut w g v (back xs (bytesRes n xs)).1 (back xs (bytesRes n xs)).2.1 (back xs (bytesRes n xs)).2.2) := by
  have hcall := fun W (h1 : SourceAt W g v xs) (h2 : Boxed W Bq 101 (.pointer (some ⟨g, 0, none⟩))) (h3 : Boxed W Bm 3 (.int .i64 n)) => SrcBytes1_any W g v xs h1 hlen n hn Bq Bm h2 h3 hq hm
  generalize bytesRes n xs = r at *
  obtain ⟨er, ys, rest⟩ := r
  have HC := Lib.hid hcall
  clear hcall
  obtain ⟨A, c, rfl, hc⟩ := hat.bytes.form
  have hb2 := (hat.box.alloc (.cells #[.pointer (some ⟨g, 0, none⟩)] 101)).alloc (.cells #[.int .i64 0] 33)
  have hcc := hb2.cell
  have hmf : ∀ (fn : Fn) (first cap : Array Value) (w : World), (Instr.makeFunc fn first cap).run Tryz.prog w = .ok (.func fn first cap) w := fun _ _ _ _ => rfl
  have hlt := hat.box.lt
  have hlt' : ¬ w.heap.size = g := by omega
  go_enter_defers Tryz.func212, Tryz.ntmps212
  go_wp2_with fail
  have hK3 : Kept (fun _ => False) w (((w.alloc (.cells #[.pointer (some ⟨g, 0, none⟩)] 101)).alloc (.cells #[.int .i64 0] 33)).alloc (.cells #[.slice A xs.length c] 22)) := (((Kept.refl _ _).alloc _).alloc _).alloc _
  have bQ3 := ((Boxed.new w 101 (.pointer (some ⟨g, 0, none⟩))).alloc (.cells #[.int .i64 0] 33)).alloc (.cells #[.slice A xs.length c] 22)
  have bE3 := (Boxed.new (w.alloc (.cells #[.pointer (some ⟨g, 0, none⟩)] 101)) 33 (.int .i64 0)).alloc (.cells #[.slice A xs.length c] 22)
  have bL3 := Boxed.new ((w.alloc (.cells #[.pointer (some ⟨g, 0, none⟩)] 101)).alloc (.cells #[.int .i64 0] 33)) 22 (.slice A xs.length c)
  simp only [World.size_alloc] at bE3 bL3
  refine (HC.out _ (hat.kept hK3 (fun h => h) (fun _ _ h => h)) (hK3.boxed hBs (fun h => h)) (hK3.boxed hBm (fun h => h))).mono ?_
  generalize ((w.alloc (.cells #[.pointer (some ⟨g, 0, none⟩)] 101)).alloc (.cells #[.int .i64 0] 33)).alloc (.cells #[.slice A xs.length c] 22) = w3 at *
  rintro e w4 ⟨r, rfl, hrow, v4, hat4, hk4, hv4⟩
  obtain ⟨A1, n1, c1, rfl⟩ := owns_slice hrow
  have bQ4 := hk4.boxed bQ3 hlt'
  have bE4 := hk4.boxed bE3 (by omega)
  have bL4 := hk4.boxed bL3 (by omega)
  have cE4 := bE4.cell
  have fE4 := bE4.frozen
  have HV := Lib.hid hv4
  clear hv4
  dsimp only
  go_wp2
  have bQ5 := bQ4.other (B' := w.heap.size + 1) (by omega) (.int .i64 er)
  have bE5 := bE4.set (.int .i64 er)
  have bL5 := bL4.other (B' := w.heap.size + 1) (by omega) (.int .i64 er)
  have bg5 := hat4.box.other (B' := w.heap.size + 1) (by omega) (.int .i64 er)
  have cE5 := bE5.cell
  by_cases h0 : er = 0
  · subst h0
    refine leaves_cons (f := 216) (args := #[.pointer (some ⟨w.heap.size + 1, 0, none⟩), .pointer (some ⟨w.heap.size + 1 + 1, 0, none⟩), .pointer (some ⟨w.heap.size, 0, none⟩)]) (by simp) (by simp [go_sem]) ?_
    refine (readingB1_ok _ .returning _ _ _ bE5).mono ?_
    rintro e u' w'' ⟨rfl, rfl, rfl⟩
    refine ⟨.tuple #[.slice A1 n1 c1, .int .i64 0], by simp [results, Tryz.results212, go_sem, cE5], _, rfl, ?_, ?_⟩
    · exact owns_set (owns_base hrow hK3.size) bE4 (by decide) _
    · exact SourceRead.carried hat hK3 (by omega) hat4 hk4 HV.out
  · refine leaves_cons (f := 216) (args := #[.pointer (some ⟨w.heap.size + 1, 0, none⟩), .pointer (some ⟨w.heap.size + 1 + 1, 0, none⟩), .pointer (some ⟨w.heap.size, 0, none⟩)]) (by simp) (by simp [go_sem]) ?_
    refine (readingB1_err _ .returning g _ _ _ er _ _ (by simp [h0]) bE5 bL5 bQ5 bg5 ⟨_, _, _, rfl⟩).mono ?_
    rintro e u' w'' ⟨rfl, rfl, rfl⟩
    have cE6 := (bE5.other (B' := g) (by omega) (.slice A xs.length c)).cell
    refine ⟨.tuple #[.slice A1 n1 c1, .int .i64 er], by simp [results, Tryz.results212, go_sem, cE6], _, rfl, ?_, ?_⟩
    · exact owns_set (owns_set (owns_base hrow hK3.size) bE4 (by decide) _) bg5 (by decide) _
    · simp only [back, h0, if_false]
      exact SourceRead.restored hat hK3 (by omega) hat4 hk4

set_option maxHeartbeats 400000 in
theorem readingB_none (f : Value) (w : World) : Calls Tryz.prog 212 #[.pointer none, f] w fun e W' => e = .returned (.tuple #[.slice none 0 0, .int .i64 1]) ∧ Below w.heap.size w W' := by
  go_enter_defers Tryz.func212, Tryz.ntmps212
  go_wp2
  refine ⟨.tuple #[.slice none 0 0, .int .i64 1], by simp [results, Tryz.results212, go_sem], rfl, ?_⟩
  exact (((Below.refl _ w).alloc (Nat.le_refl _) _).alloc (by simp) _)

set_option maxHeartbeats 400000 in
theorem SrcRaw_any (w : World) (g : Nat) (v : Value) (xs : List UInt8) (hat : SourceAt w g v xs) (hlen : xs.length ≤ 140737488355328) (n : Int) :
    Calls Tryz.prog 234 #[.pointer (some ⟨g, 0, none⟩), .int .i64 n] w (RawOut w g v (back xs (rawRes n xs)).1 (back xs (rawRes n xs)).2.1 (back xs (rawRes n xs)).2.2) := by
  have hmf : ∀ (fn : Fn) (first cap : Array Value) (w : World), (Instr.makeFunc fn first cap).run Tryz.prog w = .ok (.func fn first cap) w := fun _ _ _ _ => rfl
  have hlt := hat.box.lt
  go_enter Tryz.func234, Tryz.ntmps234
  go_wp2_with fail
  have hK3 : Kept (fun _ => False) w ((w.alloc (.cells #[.pointer (some ⟨g, 0, none⟩)] 101)).alloc (.cells #[.int .i64 n] 3)) := ((Kept.refl _ _).alloc _).alloc _
  have bQ3 := (Boxed.new w 101 (.pointer (some ⟨g, 0, none⟩))).alloc (.cells #[.int .i64 n] 3)
  have bM3 := Boxed.new (w.alloc (.cells #[.pointer (some ⟨g, 0, none⟩)] 101)) 3 (.int .i64 n)
  simp only [World.size_alloc] at bM3
  refine (readingB_SrcRaw _ g v xs (hat.kept hK3 (fun h => h) (fun _ _ h => h)) hlen n _ _ bQ3 bM3).mono ?_
  generalize ((w.alloc (.cells #[.pointer (some ⟨g, 0, none⟩)] 101)).alloc (.cells #[.int .i64 n] 3)) = w3 at *
  generalize back xs (rawRes n xs) = r at *
  rintro e w4 ⟨r', rfl, hrow, v4, hat4, hk4, hv4⟩
  have HV := Lib.hid hv4
  clear hv4
  go_wp2
  go_ret2
  exact ⟨r', rfl, owns_base hrow hK3.size, v4, hat4, (hK3.mono (T' := fun j => j = g) (fun _ _ h => h.elim)).same hk4, HV.out⟩

set_option maxHeartbeats 400000 in
theorem SrcRaw_none (n : Int) (w : World) : Calls Tryz.prog 234 #[.pointer none, .int .i64 n] w fun e W' => e = .returned (.tuple #[.slice none 0 0, .int .i64 1]) ∧ Below w.heap.size w W' := by
  have hmf : ∀ (fn : Fn) (first cap : Array Value) (w : World), (Instr.makeFunc fn first cap).run Tryz.prog w = .ok (.func fn first cap) w := fun _ _ _ _ => rfl
  go_enter Tryz.func234, Tryz.ntmps234
  go_wp2_with fail
  refine (readingB_none _ _).mono ?_
  rintro e w4 ⟨rfl, h4⟩
  go_wp2
  go_ret2
  exact ⟨rfl, (((Below.refl _ w).alloc (Nat.le_refl _) _).alloc (by simp) _).trans (h4.mono (by simp; omega))⟩
set_option maxHeartbeats 400000 in
theorem SrcBytes_any (w : World) (g : Nat) (v : Value) (xs : List UInt8) (hat : SourceAt w g v xs) (hlen : xs.length ≤ 140737488355328) (n : Int) (hn : n ≤ 9223372036854775807) :
    Calls Tryz.prog 210 #[.pointer (some ⟨g, 0, none⟩), .int .i64 n] w (RawOut w g v (back xs (bytesRes n xs)).1 (back xs (bytesRes n xs)).2.1 (back xs (bytesRes n xs)).2.2) := by
  have hmf : ∀ (fn : Fn) (first cap : Array Value) (w : World), (Instr.makeFunc fn first cap).run Tryz.prog w = .ok (.func fn first cap) w := fun _ _ _ _ => rfl
  have hlt := hat.box.lt
  go_enter Tryz.func210, Tryz.ntmps210
  go_wp2_with fail
  have hK3 : Kept (fun _ => False) w ((w.alloc (.cells #[.pointer (some ⟨g, 0, none⟩)] 101)).alloc (.cells #[.int .i64 n] 3)) := ((Kept.refl _ _).alloc _).alloc _
  have bQ3 := (Boxed.new w 101 (.pointer (some ⟨g, 0, none⟩))).alloc (.cells #[.int .i64 n] 3)
  have bM3 := Boxed.new (w.alloc (.cells #[.pointer (some ⟨g, 0, none⟩)] 101)) 3 (.int .i64 n)
  simp only [World.size_alloc] at bM3
  refine (readingB_SrcBytes _ g v xs (hat.kept hK3 (fun h => h) (fun _ _ h => h)) hlen n hn _ _ bQ3 bM3 (by omega) (by omega)).mono ?_
  generalize ((w.alloc (.cells #[.pointer (some ⟨g, 0, none⟩)] 101)).alloc (.cells #[.int .i64 n] 3)) = w3 at *
  generalize back xs (bytesRes n xs) = r at *
  rintro e w4 ⟨r', rfl, hrow, v4, hat4, hk4, hv4⟩
  have HV := Lib.hid hv4
  clear hv4
  go_wp2
  go_ret2
  exact ⟨r', rfl, owns_base hrow hK3.size, v4, hat4, (hK3.mono (T' := fun j => j = g) (fun _ _ h => h.elim)).same hk4, HV.out⟩

set_option maxHeartbeats 400000 in
theorem SrcBytes_none (n : Int) (w : World) : Calls Tryz.prog 210 #[.pointer none, .int .i64 n] w fun e W' => e = .returned (.tuple #[.slice none 0 0, .int .i64 1]) ∧ Below w.heap.size w W' := by
  have hmf : ∀ (fn : Fn) (first cap : Array Value) (w : World), (Instr.makeFunc fn first cap).run Tryz.prog w = .ok (.func fn first cap) w := fun _ _ _ _ => rfl
  go_enter Tryz.func210, Tryz.ntmps210
  go_wp2_with fail
  refine (readingB_none _ _).mono ?_
  rintro e w4 ⟨rfl, h4⟩
  go_wp2
  go_ret2
  exact ⟨rfl, (((Below.refl _ w).alloc (Nat.le_refl _) _).alloc (by simp) _).trans (h4.mono (by simp; omega))⟩
end Go.Proofs.YtljihmbmjpcfaaaGreat
