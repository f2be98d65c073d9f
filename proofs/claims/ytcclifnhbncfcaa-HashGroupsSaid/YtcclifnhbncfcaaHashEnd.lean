/- The hash of what was taken: the program's end. -/
import Derived.Test.YtcclifnhbncfcaaHashPad
import Derived.Test.YtcclifnhbncfcaaIdBox
namespace Go.Proofs.Ytcclifnhbncfcaa
open Go.RowKit Go.Shelf Go.Great
set_option maxRecDepth 100000

theorem infoW : (Try.prog.info? 93).map (fun i => (i.zero, i.size, i.bytes)) = some (some (.int .u32 0), 1, 4) := by kernel_rfl
/-- The id, as far as its words are put. -/
def idUp (c : List Nat) (i : Nat) : List UInt8 := ((List.range i).flatMap fun j => bytes4 (c.getD j 0)) ++ List.replicate (32 - 4 * i) 0
theorem flat_len (c : List Nat) : ∀ i, ((List.range i).flatMap fun j => bytes4 (c.getD j 0)).length = 4 * i
  | 0 => rfl
  | i + 1 => by
    rw [List.range_succ, List.flatMap_append, List.length_append, flat_len c i]
    simp [bytes4]
    omega
theorem idUp_length (c : List Nat) {i : Nat} (hi : i ≤ 8) : (idUp c i).length = 32 := by
  rw [idUp, List.length_append, flat_len, List.length_replicate]
  omega
theorem idUp_next (c : List Nat) {i : Nat} (hi : i < 8) : (idUp c i).take (4 * i) ++ bytes4 (c.getD i 0) ++ (idUp c i).drop (4 * i + 4) = idUp c (i + 1) := by
  have hl := flat_len c i
  unfold idUp
  rw [List.take_append_of_le_length (by omega), List.take_of_length_le (by omega), List.drop_append, List.drop_eq_nil_of_le (by omega), List.nil_append, hl, show 4 * i + 4 - 4 * i = 4 by omega, List.drop_replicate, show 32 - 4 * i - 4 = 32 - 4 * (i + 1) by omega, List.range_succ, List.flatMap_append]
  simp
theorem idUp_all (c : List Nat) : idUp c 8 = outB c := by
  unfold idUp outB bytes4
  simp [List.range_succ]

theorem index_ch (w : World) (c : Ch) {k x : Nat} (hx : c.l[k]? = some x) : (Instr.index 95 (eCh.val c) (.int .i64 (k : Int))).run Try.prog w = .ok (.int .u32 (x : Int)) w := by
  obtain ⟨i0, hi, hz0, hz1, hz2⟩ := info_parts infoW
  have hk8 : k < 8 := by
    have := (List.getElem?_eq_some_iff.1 hx).1
    rw [c.h] at this
    exact this
  have hg : (eCh.enc c)[k]? = some (.int .u32 (x : Int)) := wds_get hx
  have hval : eCh.val c = .agg (eCh.enc c).toArray := rfl
  rw [hval]
  simp [Instr.index, asIntOf, run_underlying Try.underlying95, sizeOf, typeInfo, hi, hz1]
  rw [if_pos hk8]
  simp [part, run_isAgg_plain (P := Try.prog) Try.underlying93 rfl, hg]

set_option maxHeartbeats 2000000 in
theorem end_any (w : World) (gr gk ok : Nat) (xs : List UInt8) (r : Rn) (hr : BoxR w gr r) (ht : Took xs r.c r.b) (hn : r.n = xs.length) (hk : ElAt eCn w gk ok cnAll) (hgk : gk ≠ gr) (hlen : xs.length < 1152921504606846976) :
    Calls Try.prog 62 #[.pointer (some ⟨gr, 0, none⟩), .pointer (some ⟨gk, ok, none⟩)] w fun e W' => e = .returned (IdV (shaB xs)) ∧ Kept (· = gr) w W' := by
  have hgr := BoxE.lt hr
  have b4 := BoxI.new w zeroID_length
  have hA := (Below.refl w.heap.size w).alloc (Nat.le_refl _) (.cells (zeroID.map B8).toArray 23)
  have hr1 : BoxR (w.alloc (.cells (zeroID.map B8).toArray 23)) gr r := BoxE.below hr hA
  have hk1 : ElAt eCn (w.alloc (.cells (zeroID.map B8).toArray 23)) gk ok cnAll := hk.below hA
  have hs1 : (w.alloc (.cells (zeroID.map B8).toArray 23)).heap.size = w.heap.size + 1 := by rw [World.size_alloc]
  have hln : (w.alloc (.cells (zeroID.map B8).toArray 23)).cell? ⟨gr, 72, none⟩ = some (.int .i64 (xs.length : Int)) := by rw [← hn]; exact hr1.len
  go_enter Try.func62, Try.ntmps62
  go_wp2_with (refine wpList_alloc_id rfl rfl ?_)
  generalize w.alloc (.cells (zeroID.map B8).toArray 23) = w1 at *
  refine (padding_any w1 xs.length hlen).mono ?_
  rintro e w2 ⟨v, rfl, hbs, hown, hB2⟩
  go_simp
  have hfl : (padTail xs.length).length ≤ 128 := by
    have : fillN xs.length < 64 := Nat.mod_lt _ (by decide)
    simp [padTail, be8_length]
    omega
  have hT := take_any w2 gr gk ok v xs (padTail xs.length) r (BoxE.below hr1 hB2) ht hn hbs (fun _ j hj e => by have := hown j hj; omega) (hk1.below hB2) hgk (by omega)
  go_wp2_with fail
  refine hT.mono ?_
  rintro e w3 ⟨⟨u, rfl⟩, ⟨q, hq, hqt, hqn⟩, hK3⟩
  clear hT
  rw [← padB_tail] at hqt
  have hqc := took_end hqt
  go_simp
  have hsh : shaB xs = outB q.c := by rw [shaB, hqc]
  have HSH := Lib.hid hsh
  have hc8 := q.hc
  have hclt : ∀ y ∈ q.c, y < 4294967296 := by
    rw [hqt.2.1]
    exact chainOf_lt _
  clear hqt hqn hqc hsh
  have b43 : BoxI w3 w.heap.size zeroID := (b4.below hB2).kept hK3 (by omega)
  have hw3 : w.heap.size < w3.heap.size := b43.lt
  go_wp2_with (first
    | (refine wpList_alloc_id rfl rfl ?_
       have hA4 := (Below.refl w3.heap.size w3).alloc (Nat.le_refl _) (.cells (zeroID.map B8).toArray 23)
       have b5 : BoxB (w3.alloc (.cells (zeroID.map B8).toArray 23)) w3.heap.size 23 zeroID := heap_alloc_new w3 _
       have b44 := b43.below hA4
       have hq4 : BoxR (w3.alloc (.cells (zeroID.map B8).toArray 23)) gr q := BoxE.below hq hA4
       generalize w3.alloc (.cells (zeroID.map B8).toArray 23) = w4 at *)
    | (refine wpList_load_e (E := eCh) (x := ⟨q.c, q.hc⟩) Try.underlying95 rfl sizeCh rfl (.tmp 18) rfl rfl (RnAt.chain (BoxE.at hq4)) ?_))
  have hw4 : w3.heap.size < w4.heap.size := b5.lt
  have e0 : zeroID = idUp q.c 0 := rfl
  rw [e0] at b5
  go_loopw [6, 7, 20] (fun _ _ i wr => ∃ k : Nat, k ≤ 8 ∧ i = .int .i64 (k : Int) ∧ BoxB wr w3.heap.size 23 (idUp q.c k) ∧ Kept (· = w3.heap.size) w4 wr) (fun _ _ i _ => 8 - (intOf i).toNat)
  case atStart => exact ⟨0, by omega, rfl, b5, Kept.refl _ _⟩
  case round =>
    obtain ⟨k, hk8, rfl, hb, hKw⟩ := hrel
    clear b5 e0
    by_cases hlt : k < 8
    case neg =>
      obtain rfl : k = 8 := by omega
      rw [idUp_all, ← HSH.out] at hb
      have hbI : BoxI wr w3.heap.size (shaB xs) := ⟨shaB_length xs, hb⟩
      have b45 : BoxI wr w.heap.size zeroID := b44.kept hKw (by omega)
      go_wp2_with (first
        | (refine wpList_load_id rfl (.tmp 5) rfl rfl (shaB_length xs) hbI.at ?_)
        | (refine wpList_store_id rfl (.tmp 4) (.tmp 30) rfl rfl b45 (shaB_length xs) rfl ?_; intro w6 y6 k6))
      refine bodyPost_ret (results_id1 rfl _ rfl y6) rfl ?_
      refine ⟨rfl, ?_⟩
      have k1 := ((Kept.of_below hA (Nat.le_refl _) (· = gr)).trans (Kept.of_below hB2 (Nat.le_refl _) (· = gr)) (fun _ _ h => h)).same hK3
      have k2 := k1.trans (Kept.of_below hA4 (Nat.le_refl _) (· = gr)) (fun _ _ h => h)
      exact (k2.trans hKw (fun j hj e => by omega)).trans k6 (fun j hj e => by omega)
    case pos =>
      have hli : (k : Int) < 8 := by omega
      obtain ⟨x, hx⟩ : ∃ x, x = q.c.getD k 0 := ⟨_, rfl⟩
      have hxk : q.c[k]? = some x := by rw [hx, List.getD_eq_getElem?_getD, List.getElem?_eq_getElem (by omega)]; rfl
      have hxl : x < 4294967296 := hclt x (List.mem_of_getElem? hxk)
      have hix := index_ch wr ⟨q.c, q.hc⟩ hxk
      have hsl : (Instr.sliceAt 23 (.pointer (some ⟨w3.heap.size, 0, none⟩)) (some (.int .i64 (4 * (k : Int)))) none none).run Try.prog wr = .ok (.slice (some ⟨w3.heap.size, 4 * k, none⟩) (32 - 4 * k) (32 - 4 * k)) wr := by
        have := slice_id wr w3.heap.size 0 (4 * k) (by omega)
        rw [show ((4 * k : Nat) : Int) = 4 * (k : Int) by omega, Nat.zero_add] at this
        exact this
      have HX := Lib.hid hx
      clear hx hxk
      go_wp2_with fail
      refine (putWord_box wr w3.heap.size 23 (idUp q.c k) (4 * k) (32 - 4 * k) (32 - 4 * k) x hb (by rw [idUp_length q.c hk8]; omega) (by omega) hxl).mono ?_
      rintro e w5 ⟨⟨u', rfl⟩, hb5, hk5⟩
      rw [HX.out, idUp_next q.c hlt] at hb5
      clear hix hsl
      go_simp
      go_wp2_with fail
      go_roundw
      case rel => exact ⟨k + 1, by omega, by go_num, hb5, hKw.same hk5⟩
      case measure => simp [intOf]; omega
end Go.Proofs.Ytcclifnhbncfcaa
