/- The program's Text. -/
import Derived.Test.YtcclifnhbncfcaaHashIx
import Derived.Test.YtcclifnhbncfcaaIdBox
import Derived.BigQuiet
namespace Go.Proofs.Ytcclifnhbncfcaa
open Go.RowKit Go.Great
set_option maxRecDepth 100000

theorem wrapI64 (n : Int) (h0 : 0 ≤ n) (h1 : n < 9223372036854775808) : IntKind.i64.wrap n = n := by
  simp [IntKind.wrap, IntKind.bits, IntKind.signed]
  omega
theorem infoA64 : (Try.prog.info? 66).map (fun i => (i.zero, i.size, i.bytes)) = some (some (.agg (Array.replicate 64 (.int .u8 0))), 64, 64) := by kernel_rfl
/-- 64 noughts. -/
def zero64 : List UInt8 := List.replicate 64 0
theorem zero64_cells : (zero64.map B8).toArray = Array.replicate 64 (.int .u8 0) := rfl
/-- A variable that holds 64 bytes. -/
def BoxT (W : World) (g : Nat) (xs : List UInt8) : Prop := xs.length = 64 ∧ W.heap[g]? = some (.cells (xs.map B8).toArray 66 (0, 0))
theorem BoxT.new (w : World) {xs : List UInt8} (h : xs.length = 64) : BoxT (w.alloc (.cells (xs.map B8).toArray 66)) w.heap.size xs := ⟨h, heap_alloc_new w _⟩
theorem BoxT.put {W : World} {g k : Nat} {xs : List UInt8} (h : BoxT W g xs) (y : UInt8) : BoxT (W.setCell ⟨g, k, none⟩ (B8 y)) g (xs.set k y) := by
  refine ⟨by simpa using h.1, ?_⟩
  have h1 := heap_setCell_same W g k _ _ (B8 y) h.2
  rw [h1, List.map_set]
  simp
theorem BoxT.frozen {W : World} {g k : Nat} {xs : List UInt8} (h : BoxT W g xs) : W.frozen? ⟨g, k, none⟩ = false := frozen_of_row W g k _ _ h.2
theorem BoxT.has {W : World} {g k : Nat} {xs : List UInt8} (h : BoxT W g xs) (hk : k < 64) : W.cell? ⟨g, k, none⟩ = some (B8 (xs[k]'(by rw [h.1]; exact hk))) := by
  have := h.1
  simp [World.cell?, h.2, this, hk]
theorem BoxT.cell {W : World} {g k : Nat} {xs : List UInt8} (h : BoxT W g xs) (hk : k < 64) : ∃ v, W.cell? ⟨g, k, none⟩ = some (B8 v) := ⟨_, h.has hk⟩
theorem BoxT.drew {W : World} {g : Nat} {xs : List UInt8} (h : BoxT W g xs) : BoxT W.drew g xs := h
theorem BoxT.bs {W : World} {g : Nat} {xs : List UInt8} (h : BoxT W g xs) : Bs W (.slice (some ⟨g, 0, none⟩) 64 64) xs := by
  have h1 := h.1
  refine .inr ⟨_, _, by rw [h1], by omega, fun i y hy => ?_⟩
  rw [add_plain, Nat.zero_add]
  have hi := (List.getElem?_eq_some_iff.1 hy)
  obtain ⟨h2, h3⟩ := hi
  rw [h.has (by omega), h3]
theorem wpList_alloc_64 {ops : Array Oper} {rest : List Oper} {o : Oper} {a : Act} {w : World} {Q : Exit → Act → World → Prop} (hg : o.guard = none) (ho : o.op = .alloc 66)
    (h : wpList Try.prog ops Q rest (a.put o.dst (.pointer (some ⟨w.heap.size, 0, none⟩))) (w.alloc (.cells (zero64.map B8).toArray 66))) : wpList Try.prog ops Q (o :: rest) a w := by
  obtain ⟨i0, hi, hz0, hz1, hz2⟩ := info_parts infoA64
  refine wpList_runTo hg _ rfl _ _ ?_ h
  rw [zero64_cells]
  unfold execOp
  simp [ho, Instr.alloc, zeroValue, typeInfo, hi, hz0, newVar, newRow, Value.cells]
theorem dig_at {n : Nat} (h : n < 16) {p} : (({ data := #[48, 49, 50, 51, 52, 53, 54, 55, 56, 57, 97, 98, 99, 100, 101, 102] } : ByteArray)[n]'p) = hexd n := by
  have key : ∀ n : Fin 16, (({ data := #[48, 49, 50, 51, 52, 53, 54, 55, 56, 57, 97, 98, 99, 100, 101, 102] } : ByteArray)[n.1]'(by have := n.2; simp [ByteArray.size])) = hexd n.1 := by decide +kernel
  exact key ⟨n, h⟩
theorem and15 (x : UInt8) : bits .and .u8 (x.toNat : Int) 15 = ((x.toNat % 16 : Nat) : Int) := by
  have := u8_and_nat x.toNat 15 x.toNat_lt (by omega)
  rw [nat_mask4] at this
  exact this
theorem put_two {k : Nat} (hk : k < 32) {t : List UInt8} (ht : t.length = 2 * k) (a b : UInt8) : ((t ++ zero64.drop (2 * k)).set (2 * k) a).set (2 * k + 1) b = (t ++ [a, b]) ++ zero64.drop (2 * (k + 1)) := by
  have hz : zero64.drop (2 * k) = 0 :: 0 :: zero64.drop (2 * (k + 1)) := by
    have h1 : 2 * k < zero64.length := by simp [zero64]; omega
    have h2 : 2 * k + 1 < zero64.length := by simp [zero64]; omega
    rw [List.drop_eq_getElem_cons h1, List.drop_eq_getElem_cons h2]
    have e1 : zero64[2 * k] = 0 := List.getElem_replicate (by simpa [zero64] using h1)
    have e2 : zero64[2 * k + 1] = 0 := List.getElem_replicate (by simpa [zero64] using h2)
    rw [e1, e2, show 2 * (k + 1) = 2 * k + 1 + 1 by omega]
  rw [hz, List.set_append_right _ _ (by omega), ht, Nat.sub_self, List.set_cons_zero, List.set_append_right _ _ (by omega), ht, show 2 * k + 1 - 2 * k = 1 by omega]
  simp

theorem index_id (w : World) {xs : List UInt8} (hx : xs.length = 32) {k : Nat} {x : UInt8} (hxk : xs[k]? = some x) : (Instr.index 23 (IdV xs) (.int .i64 k)).run Try.prog w = .ok (B8 x) w := by
  have hk : k < 32 := by have := (List.getElem?_eq_some_iff.1 hxk).1; omega
  have hk' : (k : Int) < 32 := by omega
  obtain ⟨i0, hi, hz0, hz1, hz2⟩ := info_parts infoU8
  have hg := (List.getElem?_eq_some_iff.1 hxk).2
  simp [Instr.index, asIntOf, run_underlying Try.underlying23, sizeOf, typeInfo, hi, hz1, hk]
  simp [part, run_isAgg_plain (P := Try.prog) Try.underlying5 rfl, hx, hk, hg]

set_option maxRecDepth 100000 in
set_option maxHeartbeats 2000000 in
theorem hText_any (w : World) (xs : List UInt8) (hx : xs.length = 32) :
    Calls Try.prog 9 #[IdV xs] w fun e W' => e = .returned (Str (textB xs)) ∧ Below w.heap.size w W' := by
  have b1 := IdAt.box w xs 23
  have y0 := BoxT.new (w.alloc (.cells (xs.map B8).toArray 23)) (xs := zero64) rfl
  have b2 := b1.below ((Below.refl _ _).alloc (Nat.le_refl _) (.cells (zero64.map B8).toArray 66))
  have hB0 : Below w.heap.size w ((w.alloc (.cells (xs.map B8).toArray 23)).alloc (.cells (zero64.map B8).toArray 66)) := ((Below.refl _ w).alloc (Nat.le_refl _) _).alloc (by simp) _
  rw [World.size_alloc] at y0
  go_enter Try.func9, Try.ntmps9
  go_wp2_with (first
    | (refine wpList_alloc_64 rfl rfl ?_)
    | (refine wpList_load_id rfl (.tmp 1) rfl rfl hx b2 ?_))
  generalize ((w.alloc (.cells (xs.map B8).toArray 23)).alloc (.cells (zero64.map B8).toArray 66)) = w2 at *
  clear b1 b2
  go_loopw [7] (fun i wr => ∃ k : Nat, k ≤ 32 ∧ i = .int .i64 k ∧ BoxT wr (w.heap.size + 1) (textB (xs.take k) ++ zero64.drop (2 * k)) ∧ Below w.heap.size w wr) (fun i _ => 32 - (intOf i).toNat)
  case atStart => exact ⟨0, by omega, rfl, y0, hB0⟩
  case round =>
    clear y0 hB0
    obtain ⟨k, hk, rfl, y, hB⟩ := hrel
    by_cases hlt : k < 32
    case pos =>
      obtain ⟨x, hxk⟩ : ∃ x, xs[k]? = some x := ⟨_, List.getElem?_eq_getElem (by omega)⟩
      have c1 : ((xs.map B8).toArray)[k]? = some (B8 x) := by simp [hxk]
      have HT := Lib.hid (textB_succ hxk)
      have hx8 := x.toNat_lt
      have hlt' : (k : Int) < 32 := by omega
      have h0' : (0 : Int) ≤ (k : Int) := by omega
      have h15 := and15 x
      obtain ⟨n1, hn1⟩ : ∃ n : Nat, n = x.toNat / 16 := ⟨_, rfl⟩
      obtain ⟨n2, hn2⟩ : ∃ n : Nat, n = x.toNat % 16 := ⟨_, rfl⟩
      have e1 : (x.toNat : Int) / 16 = (n1 : Int) := by omega
      have l1 : n1 < 16 := by omega
      have l2 : n2 < 16 := by omega
      have l1' : (n1 : Int) < 16 := by omega
      have l2' : (n2 : Int) < 16 := by omega
      have k1 : 2 * (k : Int) < 64 := by omega
      have k2 : 2 * (k : Int) + 1 < 64 := by omega
      have k3 : 0 ≤ 2 * (k : Int) := by omega
      have k4 : 0 ≤ 2 * (k : Int) + 1 := by omega
      have t1 : (2 * (k : Int)).toNat = 2 * k := by omega
      have t2 : (2 * (k : Int) + 1).toNat = 2 * k + 1 := by omega
      rw [← hn1, ← hn2] at HT
      rw [← hn2] at h15
      have hlT : (textB (xs.take k)).length = 2 * k := by rw [textB_length]; simp; omega
      have HP := Lib.hid (put_two hlt hlT (hexd n1) (hexd n2))
      have hel := index_id wr hx hxk
      clear hn1 hn2 hxk
      go_wp2_with fail
      refine wp_held (fun _ => True) (by kernel_rfl) ?_
      refine wpAnyH_next (i := 0) (v := Value.int .i64 (k : Int)) rfl (by kernel_rfl) (by kernel_rfl) (by kernel_rfl) (fun _ _ _ h => h) (by kernel_rfl) (fun W1 hW1 => by go_simp) trivial (fun a' ha' => ?_)
      simp only [Act.put, List.getElem_toArray, List.getElem_cons_zero, List.setIfInBounds_toArray, List.set_cons_succ, List.set_cons_zero] at ha'
      subst ha'
      refine wpAnyH_next (i := 1) (v := Value.int .i64 (2 * (k : Int))) rfl (by kernel_rfl) (by kernel_rfl) (by kernel_rfl) (fun _ _ _ h => h) (by kernel_rfl) (fun W1 hW1 => by go_simp; exact wrapI64 _ (by omega) (by omega)) trivial (fun a' ha' => ?_)
      simp only [Act.put, List.getElem_toArray, List.getElem_cons_succ, List.getElem_cons_zero, List.setIfInBounds_toArray, List.set_cons_succ, List.set_cons_zero] at ha'
      subst ha'
      refine wpAnyH_next (i := 2) (v := Value.int .i64 (k : Int)) rfl (by kernel_rfl) (by kernel_rfl) (by kernel_rfl) (fun _ _ _ h => h) (by kernel_rfl) (fun W1 hW1 => by go_simp) trivial (fun a' ha' => ?_)
      simp only [Act.put, List.getElem_toArray, List.getElem_cons_succ, List.getElem_cons_zero, List.setIfInBounds_toArray, List.set_cons_succ, List.set_cons_zero] at ha'
      subst ha'
      refine wpAnyH_next (i := 3) (v := Value.int .i64 (2 * (k : Int))) rfl (by kernel_rfl) (by kernel_rfl) (by kernel_rfl) (fun _ _ _ h => h) (by kernel_rfl) (fun W1 hW1 => by go_simp; exact wrapI64 _ (by omega) (by omega)) trivial (fun a' ha' => ?_)
      simp only [Act.put, List.getElem_toArray, List.getElem_cons_succ, List.getElem_cons_zero, List.setIfInBounds_toArray, List.set_cons_succ, List.set_cons_zero] at ha'
      subst ha'
      refine wpAnyH_next (i := 4) (v := Value.int .i64 (2 * (k : Int) + 1)) rfl (by kernel_rfl) (by kernel_rfl) (by kernel_rfl) (fun _ _ _ h => h) (by kernel_rfl) (fun W1 hW1 => by go_simp; exact wrapI64 _ (by omega) (by omega)) trivial (fun a' ha' => ?_)
      simp only [Act.put, List.getElem_toArray, List.getElem_cons_succ, List.getElem_cons_zero, List.setIfInBounds_toArray, List.set_cons_succ, List.set_cons_zero] at ha'
      subst ha'
      refine wpAnyH_next (i := 5) (v := B8 x) rfl (by kernel_rfl) (by kernel_rfl) (by kernel_rfl) (fun _ _ _ h => h) (by kernel_rfl) (fun W1 hW1 => by go_simp) trivial (fun a' ha' => ?_)
      simp only [Act.put, List.getElem_toArray, List.getElem_cons_succ, List.getElem_cons_zero, List.setIfInBounds_toArray, List.set_cons_succ, List.set_cons_zero] at ha'
      subst ha'
      refine wpAnyH_next (i := 6) (v := Value.int .u8 (n1 : Int)) rfl (by kernel_rfl) (by kernel_rfl) (by kernel_rfl) (fun _ _ _ h => h) (by kernel_rfl) (fun W1 hW1 => by go_simp) trivial (fun a' ha' => ?_)
      simp only [Act.put, List.getElem_toArray, List.getElem_cons_succ, List.getElem_cons_zero, List.setIfInBounds_toArray, List.set_cons_succ, List.set_cons_zero] at ha'
      subst ha'
      refine wpAnyH_next (i := 7) (v := B8 (hexd n1)) rfl (by kernel_rfl) (by kernel_rfl) (by kernel_rfl) (fun _ _ _ h => h) (by kernel_rfl) (fun W1 hW1 => by go_simp; rw [dig_at l1]) trivial (fun a' ha' => ?_)
      simp only [Act.put, List.getElem_toArray, List.getElem_cons_succ, List.getElem_cons_zero, List.setIfInBounds_toArray, List.set_cons_succ, List.set_cons_zero] at ha'
      subst ha'
      refine wpAnyH_next (i := 8) (v := B8 x) rfl (by kernel_rfl) (by kernel_rfl) (by kernel_rfl) (fun _ _ _ h => h) (by kernel_rfl) (fun W1 hW1 => by go_simp) trivial (fun a' ha' => ?_)
      simp only [Act.put, List.getElem_toArray, List.getElem_cons_succ, List.getElem_cons_zero, List.setIfInBounds_toArray, List.set_cons_succ, List.set_cons_zero] at ha'
      subst ha'
      refine wpAnyH_next (i := 9) (v := Value.int .u8 (n2 : Int)) rfl (by kernel_rfl) (by kernel_rfl) (by kernel_rfl) (fun _ _ _ h => h) (by kernel_rfl) (fun W1 hW1 => by go_simp) trivial (fun a' ha' => ?_)
      simp only [Act.put, List.getElem_toArray, List.getElem_cons_succ, List.getElem_cons_zero, List.setIfInBounds_toArray, List.set_cons_succ, List.set_cons_zero] at ha'
      subst ha'
      refine wpAnyH_next (i := 10) (v := B8 (hexd n2)) rfl (by kernel_rfl) (by kernel_rfl) (by kernel_rfl) (fun _ _ _ h => h) (by kernel_rfl) (fun W1 hW1 => by go_simp; rw [dig_at l2]) trivial (fun a' ha' => ?_)
      simp only [Act.put, List.getElem_toArray, List.getElem_cons_succ, List.getElem_cons_zero, List.setIfInBounds_toArray, List.set_cons_succ, List.set_cons_zero] at ha'
      subst ha'
      refine wpAnyH_next (i := 11) (v := Value.pointer (some ⟨w.heap.size + 1, 2 * k, none⟩)) rfl (by kernel_rfl) (by kernel_rfl) (by kernel_rfl) (fun _ _ _ h => h) (by kernel_rfl) (fun W1 hW1 => by go_simp) trivial (fun a' ha' => ?_)
      simp only [Act.put, List.getElem_toArray, List.getElem_cons_succ, List.getElem_cons_zero, List.setIfInBounds_toArray, List.set_cons_succ, List.set_cons_zero] at ha'
      subst ha'
      have f1 := y.drew.frozen (k := 2 * k)
      obtain ⟨v1, g1⟩ := y.drew.cell (k := 2 * k) (by omega)
      have y1 := y.drew.put (k := 2 * k) (hexd n1)
      refine wpAnyH_one (i := 12) (by kernel_rfl) rfl rfl (fun K hK => ?_)
      unfold Oper.wp
      go_simp
      refine hK _ _ trivial ?_
      clear hK K f1 g1
      have f1 := y1.frozen (k := 2 * k + 1)
      obtain ⟨v2, g1⟩ := y1.cell (k := 2 * k + 1) (by omega)
      have y2 := y1.put (k := 2 * k + 1) (hexd n2)
      have hB2 : Below w.heap.size w ((wr.drew.setCell ⟨w.heap.size + 1, 2 * k, none⟩ (B8 (hexd n1))).setCell ⟨w.heap.size + 1, 2 * k + 1, none⟩ (B8 (hexd n2))) := (hB.drew.setCell (p := ⟨w.heap.size + 1, 2 * k, none⟩) (Nat.le_succ _) _).setCell (p := ⟨w.heap.size + 1, 2 * k + 1, none⟩) (Nat.le_succ _) _
      rw [HP.out, ← HT.out] at y2
      clear y y1
      generalize hw3 : wr.drew.setCell ⟨w.heap.size + 1, 2 * k, none⟩ (B8 (hexd n1)) = w3 at f1 g1 y2 hB2
      refine (?_ : ∀ W3, W3 = w3 → wpAnyH _ _ _ _ _ _ _ _ W3) _ hw3
      intro w5 e5
      subst e5
      clear hw3
      refine wpAnyH_next (i := 13) (v := Value.pointer (some ⟨w.heap.size + 1, 2 * k + 1, none⟩)) rfl (by kernel_rfl) (by kernel_rfl) (by kernel_rfl) (fun _ _ _ h => h) (by kernel_rfl) (fun W1 hW1 => by go_simp) trivial (fun a' ha' => ?_)
      simp only [Act.put, List.getElem_toArray, List.getElem_cons_succ, List.getElem_cons_zero, List.setIfInBounds_toArray, List.set_cons_succ, List.set_cons_zero] at ha'
      subst ha'
      refine wpAnyH_one (i := 14) (by kernel_rfl) rfl rfl (fun K hK => ?_)
      unfold Oper.wp
      go_simp
      refine hK _ _ trivial ?_
      clear hK K f1 g1
      refine wpAnyH_fin (by kernel_rfl) ?_ _
      have Y2 := Lib.hid y2
      clear y2 hlT
      go_wp2_with fail
      go_roundw
      case rel => exact ⟨k + 1, by omega, by go_num, Y2.out, hB2⟩
      case measure => simp [intOf]; omega
    case neg =>
      obtain rfl : k = 32 := by omega
      have hy := y.bs
      rw [List.take_of_length_le (by omega), show zero64.drop (2 * 32) = [] from rfl, List.append_nil] at hy
      have hcv := fun W h => run_string_bs (P := Try.prog) W 49 9 5 Try.underlying49 Try.underlying5 Try.underlying9 (xs := textB xs) (v := .slice (some ⟨w.heap.size + 1, 0, none⟩) 64 64) h
      have hcw := hcv wr hy
      clear hy hcv
      go_wp2
      go_ret
      exact ⟨rfl, hB⟩
end Go.Proofs.Ytcclifnhbncfcaa
