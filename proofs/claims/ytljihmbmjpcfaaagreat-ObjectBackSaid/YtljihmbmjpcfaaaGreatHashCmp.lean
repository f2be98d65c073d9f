/- bytes.Compare, the program's Compare. -/
import Derived.Test.YtljihmbmjpcfaaaGreatHashIx
import Derived.Test.YtljihmbmjpcfaaaGreatBoxIdE
import Derived.Lib.BytesEntry
import Derived.BigQuiet
import Derived.Sort.Grow
namespace Go.Proofs.YtljihmbmjpcfaaaGreat
open Go.RowKit
set_option maxRecDepth 100000

theorem bdrew (w : World) (q : Nat) : Below w.heap.size w (w.drewN q) := ⟨rfl, rfl, rfl, Nat.le_refl _, fun _ _ => rfl⟩
theorem bytesOf_map (xs : List UInt8) : Lib.bytesOf (xs.map fun x => (x.toNat : Int)) = xs := by
  unfold Lib.bytesOf
  rw [List.map_map]
  conv => rhs; rw [← List.map_id xs]
  apply List.map_congr_left
  intro x _
  simp
theorem loadBs (w : World) (b off : Nat) (xs : List UInt8) (h : IdAt w b off xs) : (Extern.Bytes.loadBytes ⟨b, off, none⟩ xs.length .empty).run Tryz.prog w = .ok ⟨xs.toArray⟩ w := by
  have h1 := Lib.run_loadBytesX (P := Tryz.prog) w (xs.map fun x => (x.toNat : Int)) ⟨b, off, none⟩ .empty (fun j x hj => by
    rw [List.getElem?_map] at hj
    obtain ⟨y, hy, rfl⟩ := Option.map_eq_some_iff.1 hj
    rw [add_plain]
    exact h.cell hy)
  rw [List.length_map, bytesOf_map] at h1
  rw [h1]
  congr 1
  apply ByteArray.ext
  show (#[] : Array UInt8) ++ xs.toArray = xs.toArray
  simp
theorem run_cmpBs (w : World) (b off c b' off' c' : Nat) (xs ys : List UInt8) (hx : IdAt w b off xs) (hy : IdAt w b' off' ys) (n : Nat) (hn : xs.length = n) (hm : ys.length = n) :
    (Extern.BytealgCompare.compare #[.slice (some ⟨b, off, none⟩) n c, .slice (some ⟨b', off', none⟩) n c']).run Tryz.prog w = .ok (.int .i64 (Lib.compareBytes xs ys)) w := by
  have h1 := loadBs w b off xs hx
  have h2 := loadBs w b' off' ys hy
  rw [hn] at h1
  rw [hm] at h2
  change Sem.run _ (do pure (goInt (Extern.BytealgCompare.cmp (← Extern.Bytes.bytesOf (.slice (some ⟨b, off, none⟩) n c)) (← Extern.Bytes.bytesOf (.slice (some ⟨b', off', none⟩) n c'))))) w = _
  simp only [Extern.Bytes.bytesOf, Sem.run_bind, Sem.run_pure, h1, h2, Result.andThen]
  rw [Lib.cmp_eq]
  rfl
theorem compare_cmpB : ∀ (xs ys : List UInt8), xs.length = ys.length → Lib.compareBytes xs ys = cmpB xs ys
  | [], [], _ => rfl
  | x :: xs, y :: ys, h => by
    rw [Lib.compareBytes, cmpB, compare_cmpB xs ys (by simpa using h)]
  | [], _ :: _, h => by simp at h
  | _ :: _, [], h => by simp at h

set_option maxHeartbeats 1000000 in
theorem bCompare_any (w : World) (b off c b' off' c' : Nat) (xs ys : List UInt8) (hx : IdAt w b off xs) (hy : IdAt w b' off' ys) (hn : xs.length = 32) (hm : ys.length = 32) :
    Calls Tryz.prog 102 #[.slice (some ⟨b, off, none⟩) 32 c, .slice (some ⟨b', off', none⟩) 32 c'] w fun e w' => e = .returned (.int .i64 (cmpB xs ys)) ∧ w' = w := by
  have hr := run_cmpBs w b off c b' off' c' xs ys hx hy 32 hn hm
  rw [compare_cmpB _ _ (by rw [hn, hm])] at hr
  clear hx hy
  go_enter Tryz.func102, Tryz.ntmps102
  go_wp2
  rw [run_callFunc_extern Tryz.func132 (by kernel_rfl) (by kernel_rfl) (by kernel_rfl) (e := Extern.BytealgCompare.compare) (by kernel_rfl)]
  rw [show (#[Value.slice (some ⟨b, off, none⟩) 32 c, Value.slice (some ⟨b', off', none⟩) 32 c'] : Array Value) = #[Value.slice (some ⟨b, off, none⟩) 32 c, Value.slice (some ⟨b', off', none⟩) 32 c'] from rfl, hr]
  simp only [Result.andThen]
  rw [Oper.upon_value]
  go_wp2
  go_ret
  exact ⟨rfl, rfl⟩

theorem cmpB_self : ∀ (xs : List UInt8), cmpB xs xs = 0
  | [] => rfl
  | x :: xs => by rw [cmpB, if_neg (UInt8.lt_irrefl x), if_neg (UInt8.lt_irrefl x), cmpB_self xs]

set_option maxRecDepth 100000 in
set_option maxHeartbeats 1000000 in
theorem hCompare_grow (w : World) (xs ys : List UInt8) (hx : xs.length = 32) (hy : ys.length = 32) :
    Calls Tryz.prog 72 #[IdV xs, IdV ys] w fun e W' => e = .returned (.int .i64 (cmpB xs ys)) ∧ ∃ q os, W' = Sort.grow (w.drewN q) os := by
  have b1 := IdAt.box w xs 25
  have b2 := IdAt.box (w.alloc (.cells (xs.map B8).toArray 25)) ys 25
  have b1' := b1.below ((Below.refl _ _).alloc (Nat.le_refl _) (.cells (ys.map B8).toArray 25))
  rw [World.size_alloc] at b2
  have heq := fun W => equal_id W hx hy
  obtain ⟨w2, hw2⟩ : ∃ x, x = (w.alloc (.cells (xs.map B8).toArray 25)).alloc (.cells (ys.map B8).toArray 25) := ⟨_, rfl⟩
  rw [← hw2] at b1' b2
  have hg : ∃ os, w2 = Sort.grow w os := ⟨_, by rw [hw2, Sort.alloc_eq_grow, Sort.alloc_eq_grow, Sort.grow_grow]⟩
  have hc := fun q => bCompare_any (w2.drewN q) w.heap.size 0 32 (w.heap.size + 1) 0 32 xs ys (b1'.below (bdrew w2 q)) (b2.below (bdrew w2 q)) hx hy
  go_enter Tryz.func72, Tryz.ntmps72
  by_cases he : xs = ys
  · have heb : (xs == ys) = true := by simpa using he
    rw [heb] at heq
    have HE := Lib.hid he
    clear he heb
    go_wp2_with (first
      | (rw [← hw2]; refine wpList_load_id rfl (.tmp 2) rfl rfl hx b1' ?_)
      | (refine wpList_load_id rfl (.tmp 3) rfl rfl hy b2 ?_))
    go_ret
    obtain ⟨os, rfl⟩ := hg
    exact ⟨by rw [HE.out, cmpB_self]; rfl, 0, os, hw2.symm⟩
  · have heb : (xs == ys) = false := by simpa using he
    rw [heb] at heq
    have HE := Lib.hid he
    clear he heb
    go_wp2_with (first
      | (rw [← hw2]; refine wpList_load_id rfl (.tmp 2) rfl rfl hx b1' ?_)
      | (refine wpList_load_id rfl (.tmp 3) rfl rfl hy b2 ?_))
    rw [← hw2]
    clear hw2
    go_quiet (first | (go_at_call 102; exact Calls.quiet_of_same (hc _)))
    go_wp2
    go_ret
    obtain ⟨os, rfl⟩ := hg
    exact ⟨rfl, _, os, rfl⟩
end Go.Proofs.YtljihmbmjpcfaaaGreat
