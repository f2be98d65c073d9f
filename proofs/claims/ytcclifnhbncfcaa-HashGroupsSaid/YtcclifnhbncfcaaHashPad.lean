/- What ends bytes of a length: the program's padding; words put into bytes. -/
import Derived.Test.YtcclifnhbncfcaaHashTake
import Derived.Laws.OwnMore
namespace Go.Proofs.Ytcclifnhbncfcaa
open Go.RowKit Go.Shelf Go.Great
set_option maxRecDepth 100000

/-- A block of bytes. -/
def BoxB (W : World) (g : Nat) (t : TypeId) (xs : List UInt8) : Prop := W.heap[g]? = some (.cells (xs.map B8).toArray t (0, 0))
theorem BoxB.lt {W : World} {g : Nat} {t : TypeId} {xs : List UInt8} (h : BoxB W g t xs) : g < W.heap.size := (Array.getElem?_eq_some_iff.1 h).1
theorem BoxB.cell {W : World} {g : Nat} {t : TypeId} {xs : List UInt8} (h : BoxB W g t xs) {i : Nat} {x : UInt8} (hx : xs[i]? = some x) : W.cell? ⟨g, i, none⟩ = some (B8 x) := by
  unfold BoxB at h
  simp only [World.cell?, h]
  simp [hx]
theorem BoxB.frozen {W : World} {g : Nat} {t : TypeId} {xs : List UInt8} (h : BoxB W g t xs) (k : Nat) : W.frozen? ⟨g, k, none⟩ = false := frozen_of_row W g k _ _ h
theorem BoxB.put {W : World} {g : Nat} {t : TypeId} {xs : List UInt8} (h : BoxB W g t xs) (k : Nat) (y : UInt8) : BoxB (W.setCell ⟨g, k, none⟩ (B8 y)) g t (xs.set k y) := by
  unfold BoxB at h ⊢
  have h1 := heap_setCell_same W g k _ _ (B8 y) h
  rw [h1, List.map_set]
  simp
theorem BoxB.bs {W : World} {g : Nat} {t : TypeId} {xs : List UInt8} (h : BoxB W g t xs) {c : Nat} (hc : xs.length ≤ c) : Bs W (.slice (some ⟨g, 0, none⟩) xs.length c) xs := by
  refine .inr ⟨⟨g, 0, none⟩, c, rfl, hc, fun i x hx => ?_⟩
  rw [add_plain, Nat.zero_add]
  exact h.cell hx
/-- Four bytes laid over. -/
theorem put4_eq (xs : List UInt8) (o n : Nat) (h : o + 4 ≤ xs.length) :
    (((xs.set o (UInt8.ofNat (n / 16777216))).set (o + 1) (UInt8.ofNat (n / 65536))).set (o + 2) (UInt8.ofNat (n / 256))).set (o + 3) (UInt8.ofNat n) = xs.take o ++ bytes4 n ++ xs.drop (o + 4) := by
  apply List.ext_getElem?
  intro i
  have l1 : (xs.take o).length = o := by rw [List.length_take]; omega
  have l2 : (xs.take o ++ bytes4 n).length = o + 4 := by rw [List.length_append, l1]; rfl
  simp only [List.getElem?_set, List.length_set]
  by_cases h1 : i < o
  · rw [if_neg (by omega), if_neg (by omega), if_neg (by omega), if_neg (by omega), List.getElem?_append_left (by omega), List.getElem?_append_left (by omega), List.getElem?_take, if_pos h1]
  · by_cases h2 : i < o + 4
    · rw [List.getElem?_append_left (by omega), List.getElem?_append_right (by omega), l1]
      obtain ⟨j, rfl⟩ : ∃ j, i = o + j := ⟨i - o, by omega⟩
      rw [Nat.add_sub_cancel_left]
      match j with
      | 0 => rw [if_neg (by omega), if_neg (by omega), if_neg (by omega), if_pos (by omega), if_pos (by omega)]; rfl
      | 1 => rw [if_neg (by omega), if_neg (by omega), if_pos (by omega), if_pos (by omega)]; rfl
      | 2 => rw [if_neg (by omega), if_pos (by omega), if_pos (by omega)]; rfl
      | 3 => rw [if_pos (by omega), if_pos (by omega)]; rfl
      | j + 4 => omega
    · rw [if_neg (by omega), if_neg (by omega), if_neg (by omega), if_neg (by omega), List.getElem?_append_right (by omega), l2, List.getElem?_drop, show o + 4 + (i - (o + 4)) = i by omega]
theorem putWord_box (w : World) (g : Nat) (t : TypeId) (xs : List UInt8) (o n c x : Nat) (hb : BoxB w g t xs) (ho : o + 4 ≤ xs.length) (hn : 4 ≤ n) (hx : x < 4294967296) :
    Calls Try.prog 85 #[.slice (some ⟨g, o, none⟩) n c, .int .u32 (x : Int)] w fun e W' => (∃ v, e = .returned v) ∧ BoxB W' g t (xs.take o ++ bytes4 x ++ xs.drop (o + 4)) ∧ Kept (· = g) w W' := by
  have hc : ∀ i, o ≤ i → i < o + 4 → w.cell? ⟨g, i, none⟩ = some (B8 (xs.getD i 0)) := fun i _ h => hb.cell (by rw [List.getD_eq_getElem?_getD, List.getElem?_eq_getElem (by omega)]; rfl)
  refine (putWord_any w g o n c hn x hx _ _ _ _ (hc o (by omega) (by omega)) (hc (o + 1) (by omega) (by omega)) (hc (o + 2) (by omega) (by omega)) (hc (o + 3) (by omega) (by omega)) hb.frozen).mono ?_
  rintro e W' ⟨hv, rfl⟩
  refine ⟨hv, ?_, ?_⟩
  · rw [← put4_eq xs o x ho]
    exact (((hb.put _ _).put _ _).put _ _).put _ _
  · exact ((((Kept.refl (· = g) w).setCell (fun _ => rfl) _).setCell (fun _ => rfl) _).setCell (fun _ => rfl) _).setCell (fun _ => rfl) _

/-- A length in bits, in two words. -/
theorem be8_words (m : Nat) : bytes4 (m / 4294967296) ++ bytes4 (m % 4294967296) = be8 m := by
  have e : ∀ a b : Nat, a % 256 = b % 256 → UInt8.ofNat a = UInt8.ofNat b := fun a b h => by
    rw [← UInt8.toNat_inj, UInt8.toNat_ofNat', UInt8.toNat_ofNat']
    exact h
  unfold bytes4 be8
  simp only [List.cons_append, List.nil_append, List.range_succ, List.range_zero, List.map_cons, List.map_nil]
  rw [Nat.div_div_eq_div_mul, Nat.div_div_eq_div_mul, Nat.div_div_eq_div_mul]
  rw [e (m % 4294967296 / 16777216) (m / 16777216) (by omega), e (m % 4294967296 / 65536) (m / 65536) (by omega), e (m % 4294967296 / 256) (m / 256) (by omega), e (m % 4294967296) m (by omega)]
  simp

theorem padTail_eq (n : Nat) : padTail n = 128 :: (List.replicate (fillN n) 0 ++ (bytes4 (8 * n / 4294967296) ++ bytes4 (8 * n % 4294967296))) := by rw [padTail, be8_words]

theorem pad_list (f : Nat) (hi lo : List UInt8) (h4 : hi.length = 4) (l4 : lo.length = 4) :
    ((((List.replicate (1 + f + 8) (0 : UInt8)).set 0 128).take (1 + f) ++ hi ++ ((List.replicate (1 + f + 8) (0 : UInt8)).set 0 128).drop (1 + f + 4)).take (1 + f + 4) ++ lo ++ (((List.replicate (1 + f + 8) (0 : UInt8)).set 0 128).take (1 + f) ++ hi ++ ((List.replicate (1 + f + 8) (0 : UInt8)).set 0 128).drop (1 + f + 4)).drop (1 + f + 4 + 4)) = 128 :: (List.replicate f 0 ++ (hi ++ lo)) := by
  have e1 : (List.replicate (1 + f + 8) (0 : UInt8)).set 0 128 = 128 :: (List.replicate f 0 ++ List.replicate 8 0) := by
    rw [List.replicate_append_replicate, show 1 + f + 8 = (f + 8) + 1 by omega, List.replicate_succ]
    rfl
  have e2 : ((128 : UInt8) :: (List.replicate f 0 ++ List.replicate 8 0)).take (1 + f) = 128 :: List.replicate f 0 := by
    rw [Nat.add_comm 1 f, List.take_succ_cons, List.take_append_of_le_length (by simp)]
    simp
  have l2 : ((128 : UInt8) :: List.replicate f 0 ++ hi).length = 1 + f + 4 := by simp [h4]; omega
  rw [e1, e2, List.take_append_of_le_length (by omega), List.take_of_length_le (by omega), List.drop_append, List.drop_eq_nil_of_le (by omega), List.nil_append, l2, show 1 + f + 4 + 4 - (1 + f + 4) = 4 by omega, List.drop_drop]
  rw [List.drop_eq_nil_of_le (by simp; omega), List.append_nil]
  simp

set_option maxHeartbeats 1000000 in
theorem padding_any (w : World) (n : Nat) (hn : n < 1152921504606846976) :
    Calls Try.prog 84 #[.int .i64 (n : Int)] w fun e W' => ∃ v, e = .returned v ∧ Bs W' v (padTail n) ∧ (∀ j, v.ownBlock = some j → w.heap.size ≤ j) ∧ Below w.heap.size w W' := by
  obtain ⟨i0, hi, hz0, hz1, hz2⟩ := info_parts infoU8
  obtain ⟨f, hf⟩ : ∃ f, f = fillN n := ⟨_, rfl⟩
  have hf64 : f < 64 := by rw [hf]; exact Nat.mod_lt _ (by decide)
  have hfe : f = (119 - n % 64) % 64 := hf
  obtain ⟨L, hL⟩ : ∃ L, L = 1 + f + 8 := ⟨_, rfl⟩
  have hr := run_makeSlice (P := Try.prog) w 49 5 i0 _ Try.underlying49 hi hz0 .i64 .i64 (L : Int) (L : Int) (by omega) (by omega) (by rw [hz1, Nat.mul_one, Int.toNat_natCast]; omega) (by rw [hz2]; omega) (by omega)
  have hm : madeCells (Value.int .u8 0).cells ((L : Int).toNat * i0.size) = ((List.replicate L (0 : UInt8)).map B8).toArray := by
    rw [hz1, Nat.mul_one, Int.toNat_natCast, List.map_replicate]
    have := toList_madeCells_one (Value.int .u8 0) L
    show madeCells #[Value.int .u8 0] L = (List.replicate L (Value.int .u8 0)).toArray
    rw [← this]
  rw [hm, Int.toNat_natCast] at hr
  have hb0 : BoxB (w.alloc (.cells ((List.replicate L (0 : UInt8)).map B8).toArray 5)) w.heap.size 5 (List.replicate L 0) := heap_alloc_new w _
  have hB0 := (Below.refl w.heap.size w).alloc (Nat.le_refl _) (.cells ((List.replicate L (0 : UInt8)).map B8).toArray 5)
  generalize w.alloc (.cells ((List.replicate L (0 : UInt8)).map B8).toArray 5) = w1 at hr hb0 hB0
  have hc0 : w1.cell? ⟨w.heap.size, 0, none⟩ = some (.int .u8 0) := hb0.cell (i := 0) (x := 0) (by rw [List.getElem?_replicate, if_pos (by omega)])
  have hf0 := hb0.frozen 0
  have hb1 : BoxB (w1.setCell ⟨w.heap.size, 0, none⟩ (.int .u8 128)) w.heap.size 5 ((List.replicate L 0).set 0 128) := hb0.put 0 128
  have hB1 := hB0.setCell (p := ⟨w.heap.size, 0, none⟩) (Nat.le_refl _) (.int .u8 128)
  have e1 : (n : Int) % 64 = ((n % 64 : Nat) : Int) := by omega
  obtain ⟨m, hm64⟩ : ∃ m, m = n % 64 := ⟨_, rfl⟩
  have e0 : (n : Int).tmod 64 = (m : Int) := by rw [Int.tmod_eq_emod_of_nonneg (by omega)]; omega
  have e0' : (n : Int) % 64 = (m : Int) := by omega
  have e2 : ((119 : Int) - (m : Int)).tmod 64 = (f : Int) := by rw [Int.tmod_eq_emod_of_nonneg (by omega)]; omega
  have e2' : ((119 : Int) - (m : Int)) % 64 = (f : Int) := by omega
  have e3 : (1 : Int) + (f : Int) + 8 = (L : Int) := by omega
  have hLi : (0 : Int) < (L : Int) := by omega
  have hm2 : m < 64 := by omega
  have HF := Lib.hid hf
  have HL := Lib.hid hL
  clear hf hfe hL hm64 e1 hm hz0 hz1 hz2 hi
  go_enter Try.func84, Try.ntmps84
  go_wp2_with fail
  have hi1 : (n : Int) * 8 / 4294967296 = ((8 * n / 4294967296 : Nat) : Int) := by omega
  rw [hi1]
  have hll : ((List.replicate L (0 : UInt8)).set 0 128).length = L := by simp
  refine (putWord_box _ w.heap.size 5 _ (1 + f) (L - (1 + f)) (L - (1 + f)) (8 * n / 4294967296) hb1 (by rw [hll, HL.out]; omega) (by rw [HL.out]; omega) (by omega)).mono ?_
  rintro e w2 ⟨⟨v2, rfl⟩, hb2, hk2⟩
  have hB2 := hB1.trans (hk2.below (B := w.heap.size) (fun j _ e => by omega) hB1.size)
  clear hb1 hk2 hB1 hr hb0 hB0 hc0 hf0 hi1
  go_simp
  go_wp2_with fail
  have hi2 : (n : Int) * 8 % 4294967296 = ((8 * n % 4294967296 : Nat) : Int) := by omega
  rw [hi2]
  have hb4 : (bytes4 (8 * n / 4294967296)).length = 4 := rfl
  refine (putWord_box _ w.heap.size 5 _ (1 + f + 4) (L - (1 + f + 4)) (L - (1 + f + 4)) (8 * n % 4294967296) hb2 (by rw [List.length_append, List.length_append, List.length_take, List.length_drop, hll, hb4, HL.out]; omega) (by rw [HL.out]; omega) (Nat.mod_lt _ (by decide))).mono ?_
  rintro e w3 ⟨⟨v3, rfl⟩, hb3, hk3⟩
  have hB3 := hB2.trans (hk3.below (B := w.heap.size) (fun j _ e => by omega) hB2.size)
  clear hb2 hk3 hB2 hi2
  go_simp
  go_wp2_with fail
  go_ret
  have hp := padTail_eq n
  rw [← HF.out] at hp
  rw [HL.out, pad_list f _ _ rfl rfl, ← hp] at hb3
  have hLp : L = (padTail n).length := by rw [hp, HL.out]; simp [bytes4]; omega
  refine ⟨_, rfl, ?_, ?_, hB3⟩
  · show Bs w3 (.slice (some ⟨w.heap.size, 0, none⟩) L L) (padTail n)
    rw [hLp]
    exact hb3.bs (Nat.le_refl _)
  · intro j hj
    have e : w.heap.size = j := Option.some.inj hj
    omega
end Go.Proofs.Ytcclifnhbncfcaa
