/- What ends bytes of a length: the program's padding; words put into bytes. The hash of what was taken: the program's end. The hash of parts: the program's Of. -/
import Derived.Test.YtljihmbmjpcfaaaGreatHashTake
import Derived.Laws.OwnMore
import Derived.Test.YtljihmbmjpcfaaaGreatBoxIdE
namespace Go.Proofs.YtljihmbmjpcfaaaGreat
open Go.RowKit Go.Shelf Go.Great
set_option maxRecDepth 100000

/-- A block of bytes. -/
def BoxB (W : World) (g : Nat) (t : TypeId) (xs : List UInt8) : Prop := W.heap[g]? = some (.cells (xs.map B8).toArray t (0, 0))
theorem BoxB.lt {W : World} {g : Nat} {t : TypeId} {xs : List UInt8} (h : BoxB W g t xs) : g < W.heap.size := (Array.getElem?_eq_some_iff.1 h).1
theorem BoxB.cell {W : World} {g : Nat} {t : TypeId} {xs : List UInt8} (h : BoxB W g t xs) {i : Nat} {x : UInt8} (hx : xs[i]? = some x) : W.cell? ⟨g, i, none⟩ = some (B8 x) := by
  unfold BoxB at h
  simp only [World.cell?, h]
  simp [hx]
theorem BoxB.frozen {W : World} {g : Nat} {t : TypeId} {xs : List UInt8} (h : BoxB W g t xs) (k : Nat) : W.frozen? ⟨g, k, none⟩ = false := frozen_of_row W g k _ _ h
theorem BoxB.put {W : World} {g : Nat} {t : TypeId} {xs : List UInt8} (h : BoxB W g t xs) (k : Nat) (y : UInt8) : BoxB (W.setCell ⟨g, k, none⟩ (B8 y)) g t (xs.set k y) := by
  unfold BoxB at h ⊢
  have h1 := heap_setCell_same W g k _ _ (B8 y) h
  rw [h1, List.map_set]
  simp
theorem BoxB.bs {W : World} {g : Nat} {t : TypeId} {xs : List UInt8} (h : BoxB W g t xs) {c : Nat} (hc : xs.length ≤ c) : Bs W (.slice (some ⟨g, 0, none⟩) xs.length c) xs := by
  refine .inr ⟨⟨g, 0, none⟩, c, rfl, hc, fun i x hx => ?_⟩
  rw [add_plain, Nat.zero_add]
  exact h.cell hx
/-- Four bytes laid over. -/
theorem put4_eq (xs : List UInt8) (o n : Nat) (h : o + 4 ≤ xs.length) :
    (((xs.set o (UInt8.ofNat (n / 16777216))).set (o + 1) (UInt8.ofNat (n / 65536))).set (o + 2) (UInt8.ofNat (n / 256))).set (o + 3) (UInt8.ofNat n) = xs.take o ++ bytes4 n ++ xs.drop (o + 4) := by
  apply List.ext_getElem?
  intro i
  have l1 : (xs.take o).length = o := by rw [List.length_take]; omega
  have l2 : (xs.take o ++ bytes4 n).length = o + 4 := by rw [List.length_append, l1]; rfl
  simp only [List.getElem?_set, List.length_set]
  by_cases h1 : i < o
  · rw [if_neg (by omega), if_neg (by omega), if_neg (by omega), if_neg (by omega), List.getElem?_append_left (by omega), List.getElem?_append_left (by omega), List.getElem?_take, if_pos h1]
  · by_cases h2 : i < o + 4
    · rw [List.getElem?_append_left (by omega), List.getElem?_append_right (by omega), l1]
      obtain ⟨j, rfl⟩ : ∃ j, i = o + j := ⟨i - o, by omega⟩
      rw [Nat.add_sub_cancel_left]
      match j with
      | 0 => rw [if_neg (by omega), if_neg (by omega), if_neg (by omega), if_pos (by omega), if_pos (by omega)]; rfl
      | 1 => rw [if_neg (by omega), if_neg (by omega), if_pos (by omega), if_pos (by omega)]; rfl
      | 2 => rw [if_neg (by omega), if_pos (by omega), if_pos (by omega)]; rfl
      | 3 => rw [if_pos (by omega), if_pos (by omega)]; rfl
      | j + 4 => omega
    · rw [if_neg (by omega), if_neg (by omega), if_neg (by omega), if_neg (by omega), List.getElem?_append_right (by omega), l2, List.getElem?_drop, show o + 4 + (i - (o + 4)) = i by omega]
theorem putWord_box (w : World) (g : Nat) (t : TypeId) (xs : List UInt8) (o n c x : Nat) (hb : BoxB w g t xs) (ho : o + 4 ≤ xs.length) (hn : 4 ≤ n) (hx : x < 4294967296) :
    Calls Tryz.prog 86 #[.slice (some ⟨g, o, none⟩) n c, .int .u32 (x : Int)] w fun e W' => (∃ v, e = .returned v) ∧ BoxB W' g t (xs.take o ++ bytes4 x ++ xs.drop (o + 4)) ∧ Kept (· = g) w W' := by
  have hc : ∀ i, o ≤ i → i < o + 4 → w.cell? ⟨g, i, none⟩ = some (B8 (xs.getD i 0)) := fun i _ h => hb.cell (by rw [List.getD_eq_getElem?_getD, List.getElem?_eq_getElem (by omega)]; rfl)
  refine (putWord_any w g o n c hn x hx _ _ _ _ (hc o (by omega) (by omega)) (hc (o + 1) (by omega) (by omega)) (hc (o + 2) (by omega) (by omega)) (hc (o + 3) (by omega) (by omega)) hb.frozen).mono ?_
  rintro e W' ⟨hv, rfl⟩
  refine ⟨hv, ?_, ?_⟩
  · rw [← put4_eq xs o x ho]
    exact (((hb.put _ _).put _ _).put _ _).put _ _
  · exact ((((Kept.refl (· = g) w).setCell (fun _ => rfl) _).setCell (fun _ => rfl) _).setCell (fun _ => rfl) _).setCell (fun _ => rfl) _

/-- A length in bits, in two words. -/
theorem be8_words (m : Nat) : bytes4 (m / 4294967296) ++ bytes4 (m % 4294967296) = be8 m := by
  have e : ∀ a b : Nat, a % 256 = b % 256 → UInt8.ofNat a = UInt8.ofNat b := fun a b h => by
    rw [← UInt8.toNat_inj, UInt8.toNat_ofNat', UInt8.toNat_ofNat']
    exact h
  unfold bytes4 be8
  simp only [List.cons_append, List.nil_append, List.range_succ, List.range_zero, List.map_cons, List.map_nil]
  rw [Nat.div_div_eq_div_mul, Nat.div_div_eq_div_mul, Nat.div_div_eq_div_mul]
  rw [e (m % 4294967296 / 16777216) (m / 16777216) (by omega), e (m % 4294967296 / 65536) (m / 65536) (by omega), e (m % 4294967296 / 256) (m / 256) (by omega), e (m % 4294967296) m (by omega)]
  simp

theorem padTail_eq (n : Nat) : padTail n = 128 :: (List.replicate (fillN n) 0 ++ (bytes4 (8 * n / 4294967296) ++ bytes4 (8 * n % 4294967296))) := by rw [padTail, be8_words]

theorem pad_list (f : Nat) (hi lo : List UInt8) (h4 : hi.length = 4) (l4 : lo.length = 4) :
    ((((List.replicate (1 + f + 8) (0 : UInt8)).set 0 128).take (1 + f) ++ hi ++ ((List.replicate (1 + f + 8) (0 : UInt8)).set 0 128).drop (1 + f + 4)).take (1 + f + 4) ++ lo ++ (((List.replicate (1 + f + 8) (0 : UInt8)).set 0 128).take (1 + f) ++ hi ++ ((List.replicate (1 + f + 8) (0 : UInt8)).set 0 128).drop (1 + f + 4)).drop (1 + f + 4 + 4)) = 128 :: (List.replicate f 0 ++ (hi ++ lo)) := by
  have e1 : (List.replicate (1 + f + 8) (0 : UInt8)).set 0 128 = 128 :: (List.replicate f 0 ++ List.replicate 8 0) := by
    rw [List.replicate_append_replicate, show 1 + f + 8 = (f + 8) + 1 by omega, List.replicate_succ]
    rfl
  have e2 : ((128 : UInt8) :: (List.replicate f 0 ++ List.replicate 8 0)).take (1 + f) = 128 :: List.replicate f 0 := by
    rw [Nat.add_comm 1 f, List.take_succ_cons, List.take_append_of_le_length (by simp)]
    simp
  have l2 : ((128 : UInt8) :: List.replicate f 0 ++ hi).length = 1 + f + 4 := by simp [h4]; omega
  rw [e1, e2, List.take_append_of_le_length (by omega), List.take_of_length_le (by omega), List.drop_append, List.drop_eq_nil_of_le (by omega), List.nil_append, l2, show 1 + f + 4 + 4 - (1 + f + 4) = 4 by omega, List.drop_drop]
  rw [List.drop_eq_nil_of_le (by simp; omega), List.append_nil]
  simp

set_option maxHeartbeats 1000000 in
theorem padding_any (w : World) (n : Nat) (hn : n < 1152921504606846976) :
    Calls Tryz.prog 85 #[.int .i64 (n : Int)] w fun e W' => ∃ v, e = .returned v ∧ Bs W' v (padTail n) ∧ (∀ j, v.ownBlock = some j → w.heap.size ≤ j) ∧ Below w.heap.size w W' := by
  obtain ⟨i0, hi, hz0, hz1, hz2⟩ := info_parts infoU8
  obtain ⟨f, hf⟩ : ∃ f, f = fillN n := ⟨_, rfl⟩
  have hf64 : f < 64 := by rw [hf]; exact Nat.mod_lt _ (by decide)
  have hfe : f = (119 - n % 64) % 64 := hf
  obtain ⟨L, hL⟩ : ∃ L, L = 1 + f + 8 := ⟨_, rfl⟩
  have hr := run_makeSlice (P := Tryz.prog) w 22 5 i0 _ Tryz.underlying22 hi hz0 .i64 .i64 (L : Int) (L : Int) (by omega) (by omega) (by rw [hz1, Nat.mul_one, Int.toNat_natCast]; omega) (by rw [hz2]; omega) (by omega)
  have hm : madeCells (Value.int .u8 0).cells ((L : Int).toNat * i0.size) = ((List.replicate L (0 : UInt8)).map B8).toArray := by
    rw [hz1, Nat.mul_one, Int.toNat_natCast, List.map_replicate]
    have := toList_madeCells_one (Value.int .u8 0) L
    show madeCells #[Value.int .u8 0] L = (List.replicate L (Value.int .u8 0)).toArray
    rw [← this]
  rw [hm, Int.toNat_natCast] at hr
  have hb0 : BoxB (w.alloc (.cells ((List.replicate L (0 : UInt8)).map B8).toArray 5)) w.heap.size 5 (List.replicate L 0) := heap_alloc_new w _
  have hB0 := (Below.refl w.heap.size w).alloc (Nat.le_refl _) (.cells ((List.replicate L (0 : UInt8)).map B8).toArray 5)
  generalize w.alloc (.cells ((List.replicate L (0 : UInt8)).map B8).toArray 5) = w1 at hr hb0 hB0
  have hc0 : w1.cell? ⟨w.heap.size, 0, none⟩ = some (.int .u8 0) := hb0.cell (i := 0) (x := 0) (by rw [List.getElem?_replicate, if_pos (by omega)])
  have hf0 := hb0.frozen 0
  have hb1 : BoxB (w1.setCell ⟨w.heap.size, 0, none⟩ (.int .u8 128)) w.heap.size 5 ((List.replicate L 0).set 0 128) := hb0.put 0 128
  have hB1 := hB0.setCell (p := ⟨w.heap.size, 0, none⟩) (Nat.le_refl _) (.int .u8 128)
  have e1 : (n : Int) % 64 = ((n % 64 : Nat) : Int) := by omega
  obtain ⟨m, hm64⟩ : ∃ m, m = n % 64 := ⟨_, rfl⟩
  have e0 : (n : Int).tmod 64 = (m : Int) := by rw [Int.tmod_eq_emod_of_nonneg (by omega)]; omega
  have e0' : (n : Int) % 64 = (m : Int) := by omega
  have e2 : ((119 : Int) - (m : Int)).tmod 64 = (f : Int) := by rw [Int.tmod_eq_emod_of_nonneg (by omega)]; omega
  have e2' : ((119 : Int) - (m : Int)) % 64 = (f : Int) := by omega
  have e3 : (1 : Int) + (f : Int) + 8 = (L : Int) := by omega
  have hLi : (0 : Int) < (L : Int) := by omega
  have hm2 : m < 64 := by omega
  have HF := Lib.hid hf
  have HL := Lib.hid hL
  clear hf hfe hL hm64 e1 hm hz0 hz1 hz2 hi
  go_enter Tryz.func85, Tryz.ntmps85
  go_wp2_with fail
  have hi1 : (n : Int) * 8 / 4294967296 = ((8 * n / 4294967296 : Nat) : Int) := by omega
  rw [hi1]
  have hll : ((List.replicate L (0 : UInt8)).set 0 128).length = L := by simp
  refine (putWord_box _ w.heap.size 5 _ (1 + f) (L - (1 + f)) (L - (1 + f)) (8 * n / 4294967296) hb1 (by rw [hll, HL.out]; omega) (by rw [HL.out]; omega) (by omega)).mono ?_
  rintro e w2 ⟨⟨v2, rfl⟩, hb2, hk2⟩
  have hB2 := hB1.trans (hk2.below (B := w.heap.size) (fun j _ e => by omega) hB1.size)
  clear hb1 hk2 hB1 hr hb0 hB0 hc0 hf0 hi1
  go_simp
  go_wp2_with fail
  have hi2 : (n : Int) * 8 % 4294967296 = ((8 * n % 4294967296 : Nat) : Int) := by omega
  rw [hi2]
  have hb4 : (bytes4 (8 * n / 4294967296)).length = 4 := rfl
  refine (putWord_box _ w.heap.size 5 _ (1 + f + 4) (L - (1 + f + 4)) (L - (1 + f + 4)) (8 * n % 4294967296) hb2 (by rw [List.length_append, List.length_append, List.length_take, List.length_drop, hll, hb4, HL.out]; omega) (by rw [HL.out]; omega) (Nat.mod_lt _ (by decide))).mono ?_
  rintro e w3 ⟨⟨v3, rfl⟩, hb3, hk3⟩
  have hB3 := hB2.trans (hk3.below (B := w.heap.size) (fun j _ e => by omega) hB2.size)
  clear hb2 hk3 hB2 hi2
  go_simp
  go_wp2_with fail
  go_ret
  have hp := padTail_eq n
  rw [← HF.out] at hp
  rw [HL.out, pad_list f _ _ rfl rfl, ← hp] at hb3
  have hLp : L = (padTail n).length := by rw [hp, HL.out]; simp [bytes4]; omega
  refine ⟨_, rfl, ?_, ?_, hB3⟩
  · show Bs w3 (.slice (some ⟨w.heap.size, 0, none⟩) L L) (padTail n)
    rw [hLp]
    exact hb3.bs (Nat.le_refl _)
  · intro j hj
    have e : w.heap.size = j := Option.some.inj hj
    omega
end Go.Proofs.YtljihmbmjpcfaaaGreat
namespace Go.Proofs.YtljihmbmjpcfaaaGreat
open Go.RowKit Go.Shelf Go.Great
set_option maxRecDepth 100000

theorem infoW : (Tryz.prog.info? 112).map (fun i => (i.zero, i.size, i.bytes)) = some (some (.int .u32 0), 1, 4) := by kernel_rfl
/-- The id, as far as its words are put. -/
def idUp (c : List Nat) (i : Nat) : List UInt8 := ((List.range i).flatMap fun j => bytes4 (c.getD j 0)) ++ List.replicate (32 - 4 * i) 0
theorem flat_len (c : List Nat) : ∀ i, ((List.range i).flatMap fun j => bytes4 (c.getD j 0)).length = 4 * i
  | 0 => rfl
  | i + 1 => by
    rw [List.range_succ, List.flatMap_append, List.length_append, flat_len c i]
    simp [bytes4]
    omega
theorem idUp_length (c : List Nat) {i : Nat} (hi : i ≤ 8) : (idUp c i).length = 32 := by
  rw [idUp, List.length_append, flat_len, List.length_replicate]
  omega
theorem idUp_next (c : List Nat) {i : Nat} (hi : i < 8) : (idUp c i).take (4 * i) ++ bytes4 (c.getD i 0) ++ (idUp c i).drop (4 * i + 4) = idUp c (i + 1) := by
  have hl := flat_len c i
  unfold idUp
  rw [List.take_append_of_le_length (by omega), List.take_of_length_le (by omega), List.drop_append, List.drop_eq_nil_of_le (by omega), List.nil_append, hl, show 4 * i + 4 - 4 * i = 4 by omega, List.drop_replicate, show 32 - 4 * i - 4 = 32 - 4 * (i + 1) by omega, List.range_succ, List.flatMap_append]
  simp
theorem idUp_all (c : List Nat) : idUp c 8 = outB c := by
  unfold idUp outB bytes4
  simp [List.range_succ]

theorem index_ch (w : World) (c : Ch) {k x : Nat} (hx : c.l[k]? = some x) : (Instr.index 114 (eCh.val c) (.int .i64 (k : Int))).run Tryz.prog w = .ok (.int .u32 (x : Int)) w := by
  obtain ⟨i0, hi, hz0, hz1, hz2⟩ := info_parts infoW
  have hk8 : k < 8 := by
    have := (List.getElem?_eq_some_iff.1 hx).1
    rw [c.h] at this
    exact this
  have hg : (eCh.enc c)[k]? = some (.int .u32 (x : Int)) := wds_get hx
  have hval : eCh.val c = .agg (eCh.enc c).toArray := rfl
  rw [hval]
  simp [Instr.index, asIntOf, run_underlying Tryz.underlying114, sizeOf, typeInfo, hi, hz1]
  rw [if_pos hk8]
  simp [part, run_isAgg_plain (P := Tryz.prog) Tryz.underlying112 rfl, hg]

set_option maxHeartbeats 2000000 in
theorem end_any (w : World) (gr gk ok : Nat) (xs : List UInt8) (r : Rn) (hr : BoxR w gr r) (ht : Took xs r.c r.b) (hn : r.n = xs.length) (hk : ElAt eCn w gk ok cnAll) (hgk : gk ≠ gr) (hlen : xs.length < 1152921504606846976) :
    Calls Tryz.prog 59 #[.pointer (some ⟨gr, 0, none⟩), .pointer (some ⟨gk, ok, none⟩)] w fun e W' => e = .returned (IdV (shaB xs)) ∧ Kept (· = gr) w W' := by
  have hgr := BoxE.lt hr
  have b4 := BoxI.new w zeroID_length
  have hA := (Below.refl w.heap.size w).alloc (Nat.le_refl _) (.cells (zeroID.map B8).toArray 25)
  have hr1 : BoxR (w.alloc (.cells (zeroID.map B8).toArray 25)) gr r := BoxE.below hr hA
  have hk1 : ElAt eCn (w.alloc (.cells (zeroID.map B8).toArray 25)) gk ok cnAll := hk.below hA
  have hs1 : (w.alloc (.cells (zeroID.map B8).toArray 25)).heap.size = w.heap.size + 1 := by rw [World.size_alloc]
  have hln : (w.alloc (.cells (zeroID.map B8).toArray 25)).cell? ⟨gr, 72, none⟩ = some (.int .i64 (xs.length : Int)) := by rw [← hn]; exact hr1.len
  go_enter Tryz.func59, Tryz.ntmps59
  go_wp2_with (refine wpList_alloc_id rfl rfl ?_)
  generalize w.alloc (.cells (zeroID.map B8).toArray 25) = w1 at *
  refine (padding_any w1 xs.length hlen).mono ?_
  rintro e w2 ⟨v, rfl, hbs, hown, hB2⟩
  go_simp
  have hfl : (padTail xs.length).length ≤ 128 := by
    have : fillN xs.length < 64 := Nat.mod_lt _ (by decide)
    simp [padTail, be8_length]
    omega
  have hT := take_any w2 gr gk ok v xs (padTail xs.length) r (BoxE.below hr1 hB2) ht hn hbs (fun _ j hj e => by have := hown j hj; omega) (hk1.below hB2) hgk (by omega)
  go_wp2_with fail
  refine hT.mono ?_
  rintro e w3 ⟨⟨u, rfl⟩, ⟨q, hq, hqt, hqn⟩, hK3⟩
  clear hT
  rw [← padB_tail] at hqt
  have hqc := took_end hqt
  go_simp
  have hsh : shaB xs = outB q.c := by rw [shaB, hqc]
  have HSH := Lib.hid hsh
  have hc8 := q.hc
  have hclt : ∀ y ∈ q.c, y < 4294967296 := by
    rw [hqt.2.1]
    exact chainOf_lt _
  clear hqt hqn hqc hsh
  have b43 : BoxI w3 w.heap.size zeroID := (b4.below hB2).kept hK3 (by omega)
  have hw3 : w.heap.size < w3.heap.size := b43.lt
  go_wp2_with (first
    | (refine wpList_alloc_id rfl rfl ?_
       have hA4 := (Below.refl w3.heap.size w3).alloc (Nat.le_refl _) (.cells (zeroID.map B8).toArray 25)
       have b5 : BoxB (w3.alloc (.cells (zeroID.map B8).toArray 25)) w3.heap.size 25 zeroID := heap_alloc_new w3 _
       have b44 := b43.below hA4
       have hq4 : BoxR (w3.alloc (.cells (zeroID.map B8).toArray 25)) gr q := BoxE.below hq hA4
       generalize w3.alloc (.cells (zeroID.map B8).toArray 25) = w4 at *)
    | (refine wpList_load_e (E := eCh) (x := ⟨q.c, q.hc⟩) Tryz.underlying114 rfl sizeCh rfl (.tmp 18) rfl rfl (RnAt.chain (BoxE.at hq4)) ?_))
  have hw4 : w3.heap.size < w4.heap.size := b5.lt
  have e0 : zeroID = idUp q.c 0 := rfl
  rw [e0] at b5
  go_loopw [6, 7, 20] (fun _ _ i wr => ∃ k : Nat, k ≤ 8 ∧ i = .int .i64 (k : Int) ∧ BoxB wr w3.heap.size 25 (idUp q.c k) ∧ Kept (· = w3.heap.size) w4 wr) (fun _ _ i _ => 8 - (intOf i).toNat)
  case atStart => exact ⟨0, by omega, rfl, b5, Kept.refl _ _⟩
  case round =>
    obtain ⟨k, hk8, rfl, hb, hKw⟩ := hrel
    clear b5 e0
    by_cases hlt : k < 8
    case neg =>
      obtain rfl : k = 8 := by omega
      rw [idUp_all, ← HSH.out] at hb
      have hbI : BoxI wr w3.heap.size (shaB xs) := ⟨shaB_length xs, hb⟩
      have b45 : BoxI wr w.heap.size zeroID := b44.kept hKw (by omega)
      go_wp2_with (first
        | (refine wpList_load_id rfl (.tmp 5) rfl rfl (shaB_length xs) hbI.at ?_)
        | (refine wpList_store_id rfl (.tmp 4) (.tmp 30) rfl rfl b45 (shaB_length xs) rfl ?_; intro w6 y6 k6))
      refine bodyPost_ret (results_id1 rfl _ rfl y6) rfl ?_
      refine ⟨rfl, ?_⟩
      have k1 := ((Kept.of_below hA (Nat.le_refl _) (· = gr)).trans (Kept.of_below hB2 (Nat.le_refl _) (· = gr)) (fun _ _ h => h)).same hK3
      have k2 := k1.trans (Kept.of_below hA4 (Nat.le_refl _) (· = gr)) (fun _ _ h => h)
      exact (k2.trans hKw (fun j hj e => by omega)).trans k6 (fun j hj e => by omega)
    case pos =>
      have hli : (k : Int) < 8 := by omega
      obtain ⟨x, hx⟩ : ∃ x, x = q.c.getD k 0 := ⟨_, rfl⟩
      have hxk : q.c[k]? = some x := by rw [hx, List.getD_eq_getElem?_getD, List.getElem?_eq_getElem (by omega)]; rfl
      have hxl : x < 4294967296 := hclt x (List.mem_of_getElem? hxk)
      have hix := index_ch wr ⟨q.c, q.hc⟩ hxk
      have hsl : (Instr.sliceAt 25 (.pointer (some ⟨w3.heap.size, 0, none⟩)) (some (.int .i64 (4 * (k : Int)))) none none).run Tryz.prog wr = .ok (.slice (some ⟨w3.heap.size, 4 * k, none⟩) (32 - 4 * k) (32 - 4 * k)) wr := by
        have := slice_id wr w3.heap.size 0 (4 * k) (by omega)
        rw [show ((4 * k : Nat) : Int) = 4 * (k : Int) by omega, Nat.zero_add] at this
        exact this
      have HX := Lib.hid hx
      clear hx hxk
      go_wp2_with fail
      refine (putWord_box wr w3.heap.size 25 (idUp q.c k) (4 * k) (32 - 4 * k) (32 - 4 * k) x hb (by rw [idUp_length q.c hk8]; omega) (by omega) hxl).mono ?_
      rintro e w5 ⟨⟨u', rfl⟩, hb5, hk5⟩
      rw [HX.out, idUp_next q.c hlt] at hb5
      clear hix hsl
      go_simp
      go_wp2_with fail
      go_roundw
      case rel => exact ⟨k + 1, by omega, by go_num, hb5, hKw.same hk5⟩
      case measure => simp [intOf]; omega
end Go.Proofs.YtljihmbmjpcfaaaGreat
namespace Go.Proofs.YtljihmbmjpcfaaaGreat
open Go.RowKit Go.Shelf Go.Great
set_option maxRecDepth 100000

/-- A slice of slices of bytes. -/
def Parts (W : World) (v : Value) (ps : List (List UInt8)) : Prop :=
  ∃ A c, v = .slice A ps.length c ∧ ∀ i p, ps[i]? = some p → ∃ b off u, A = some ⟨b, off, none⟩ ∧ W.cell? ⟨b, off + i, none⟩ = some u ∧ Bs W u p
theorem Parts.below {w w' : World} {v : Value} {ps : List (List UInt8)} (h : Parts w v ps) (hb : Below w.heap.size w w') : Parts w' v ps := by
  obtain ⟨A, c, rfl, h2⟩ := h
  refine ⟨A, c, rfl, fun i p hp => ?_⟩
  obtain ⟨b, off, u, rfl, h3, h4⟩ := h2 i p hp
  exact ⟨b, off, u, rfl, (hb.cell (p := ⟨b, off + i, none⟩) (World.block_lt_of_cell? _ _ h3)).trans h3, h4.below hb⟩

set_option maxHeartbeats 2000000 in
theorem hOf_any (w : World) (v : Value) (ps : List (List UInt8)) (hv : Parts w v ps) (hlen : ps.flatten.length < 1152921504606846976) (hpl : ps.length < 1152921504606846976) :
    Calls Tryz.prog 17 #[v] w fun e W' => e = .returned (IdV (shaB ps.flatten)) ∧ Below w.heap.size w W' := by
  obtain ⟨A, c, rfl, h2⟩ := hv
  have b2 := BoxI.new w zeroID_length
  have hA := (Below.refl w.heap.size w).alloc (Nat.le_refl _) (.cells (zeroID.map B8).toArray 25)
  have hs1 : (w.alloc (.cells (zeroID.map B8).toArray 25)).heap.size = w.heap.size + 1 := by rw [World.size_alloc]
  go_enter Tryz.func17, Tryz.ntmps17
  go_wp2_with (refine wpList_alloc_id rfl rfl ?_)
  generalize w.alloc (.cells (zeroID.map B8).toArray 25) = w1 at *
  refine (workedOut_any w1).mono ?_
  rintro e w2 ⟨rfl, hB2⟩
  go_simp
  have b22 := b2.below hB2
  have hB20 := hA.trans (hB2.mono hA.size)
  have hs2 : w.heap.size < w2.heap.size := b22.lt
  clear b2 hB2 hs1 hA
  go_wp2_with (first
    | (refine wpList_alloc_e (E := eCn) zeroCn_run rfl rfl ?_
       have z3 := BoxE.new (E := eCn) (t := 117) w2 zeroCn
       have hA3 := (Below.refl w2.heap.size w2).alloc (Nat.le_refl _) (.cells (eCn.enc zeroCn).toArray 117)
       have b23 := b22.below hA3
       generalize w2.alloc (.cells (eCn.enc zeroCn).toArray 117) = w3 at *)
    | (refine wpList_store_e (E := eCn) (u := cnAll) sizeCn rfl (.tmp 3) (.tmp 7) rfl rfl z3 rfl ?_; intro w4 z4 k4)
    | (refine wpList_alloc_e (E := eRn) zeroRn_run rfl rfl ?_
       have z5 := BoxE.new (E := eRn) (t := 121) w4 zeroRn
       have hA5 := (Below.refl w4.heap.size w4).alloc (Nat.le_refl _) (.cells (eRn.enc zeroRn).toArray 121)
       generalize w4.alloc (.cells (eRn.enc zeroRn).toArray 121) = w5 at *))
  have hB30 := hB20.trans (hA3.mono hB20.size)
  have hB40 := hB30.trans (k4.below (B := w.heap.size) (fun j _ e => by omega) hB30.size)
  have hB50 := hB40.trans (hA5.mono hB40.size)
  have b25 := (b23.kept k4 (by omega)).below hA5
  have z45 := BoxE.below z4 hA5
  have hs4 := z4.lt
  have hw4 : w.heap.size ≤ w4.heap.size := hB40.size
  clear hB20 hB30 hB40 b22 b23 z3 hA3 k4 z4
  have H5 : ∀ W, Kept (· = w4.heap.size) w5 W → ∀ i p, ps[i]? = some p → ∃ b off u, A = some ⟨b, off, none⟩ ∧ W.cell? ⟨b, off + i, none⟩ = some u ∧ Bs W u p ∧ (p ≠ [] → ∀ j, u.ownBlock = some j → j ≠ w4.heap.size) := fun W hK i p hp => by
    obtain ⟨b, off, u, e, h3, h4⟩ := h2 i p hp
    have hbl : b < w.heap.size := World.block_lt_of_cell? _ _ h3
    have hob : p ≠ [] → ∀ j, u.ownBlock = some j → j ≠ w4.heap.size := fun hne j hj e => by
      have := h4.lt hne j hj
      omega
    have h5 := Kept.bs1 (Kept.of_below hB50 (Nat.le_refl _) (· = w4.heap.size)) h4 hob
    have h6 := (hB50.cell (p := ⟨b, off + i, none⟩) hbl).trans h3
    exact ⟨b, off, u, e, (hK.cell (p := ⟨b, off + i, none⟩) (by have := hB50.size; show b < w5.heap.size; omega) (by show ¬ b = w4.heap.size; omega)).trans h6, hK.bs1 h5 hob, hob⟩
  go_loopw [6, 10] (fun _ i wr => ∃ (k : Nat) (q : Rn), k ≤ ps.length ∧ i = .int .i64 (k : Int) ∧ BoxR wr w4.heap.size q ∧ Took (ps.take k).flatten q.c q.b ∧ q.n = (ps.take k).flatten.length ∧ Kept (· = w4.heap.size) w5 wr) (fun _ i _ => ps.length - (intOf i).toNat)
  case atStart => exact ⟨0, zeroRn, by omega, rfl, z5, took_nil, rfl, Kept.refl _ _⟩
  case round =>
    clear z5
    obtain ⟨k, q, hkl, rfl, hq, hqt, hqn, hK⟩ := hrel
    have hkc : ElAt eCn wr w2.heap.size 0 cnAll := (BoxE.kept z45 hK (by omega)).at
    by_cases hlt : k < ps.length
    case neg =>
      obtain rfl : k = ps.length := by omega
      rw [List.take_of_length_le (Nat.le_refl _)] at hqt hqn
      have hnl : ¬ (ps.length : Int) < (ps.length : Int) := by omega
      have b2r := b25.kept hK (by omega)
      have hE := end_any wr w4.heap.size w2.heap.size 0 ps.flatten q hq hqt hqn hkc (by omega) hlen
      go_wp2_with fail
      refine hE.mono ?_
      rintro e w6 ⟨rfl, hK6⟩
      have b26 := b2r.kept hK6 (by have := hB50.size; omega)
      have hK7 := hK.same hK6
      have hB60 : Below w.heap.size w w6 := hB50.trans (hK7.below (B := w.heap.size) (fun j _ e => by omega) hB50.size)
      clear hE
      go_simp
      go_wp2_with (refine wpList_store_id rfl (.tmp 2) (.tmp 17) rfl rfl b26 (shaB_length _) rfl ?_; intro w7 y7 k7)
      refine bodyPost_ret (results_id1 rfl _ rfl y7) rfl ?_
      exact ⟨rfl, hB60.trans (k7.below (B := w.heap.size) (fun j _ e => by omega) hB60.size)⟩
    case pos =>
      have hlti : (k : Int) < (ps.length : Int) := by omega
      obtain ⟨p, hp⟩ : ∃ p, ps[k]? = some p := ⟨_, List.getElem?_eq_getElem hlt⟩
      obtain ⟨b, off, u, rfl, h3, h4, h5⟩ := H5 wr hK k p hp
      have hnext : (ps.take (k + 1)).flatten = (ps.take k).flatten ++ p := by
        rw [List.take_add_one, hp, List.flatten_append]
        simp
      have hle : (ps.take k).flatten.length + p.length ≤ ps.flatten.length := by
        have e : ps.flatten = (ps.take (k + 1)).flatten ++ (ps.drop (k + 1)).flatten := by rw [← List.flatten_append, List.take_append_drop]
        rw [e, hnext, List.length_append, List.length_append]
        omega
      have hT := take_any wr w4.heap.size w2.heap.size 0 u (ps.take k).flatten p q hq hqt hqn h4 h5 hkc (by omega) (by omega)
      rw [← hnext] at hT
      clear hnext hle
      go_wp2_with fail
      refine hT.mono ?_
      rintro e w6 ⟨⟨u', rfl⟩, ⟨q', hq', hqt', hqn'⟩, hK6⟩
      clear hT
      go_simp
      go_wp2_with fail
      go_roundw
      case rel => exact ⟨k + 1, q', by omega, by go_num, hq', hqt', hqn', hK.same hK6⟩
      case measure => simp [intOf]; omega
end Go.Proofs.YtljihmbmjpcfaaaGreat
