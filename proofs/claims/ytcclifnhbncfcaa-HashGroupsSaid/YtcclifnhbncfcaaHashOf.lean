/- The hash of parts: the program's Of. -/
import Derived.Test.YtcclifnhbncfcaaHashEnd
namespace Go.Proofs.Ytcclifnhbncfcaa
open Go.RowKit Go.Shelf Go.Great
set_option maxRecDepth 100000

/-- A slice of slices of bytes. -/
def Parts (W : World) (v : Value) (ps : List (List UInt8)) : Prop :=
  ∃ A c, v = .slice A ps.length c ∧ ∀ i p, ps[i]? = some p → ∃ b off u, A = some ⟨b, off, none⟩ ∧ W.cell? ⟨b, off + i, none⟩ = some u ∧ Bs W u p
theorem Parts.below {w w' : World} {v : Value} {ps : List (List UInt8)} (h : Parts w v ps) (hb : Below w.heap.size w w') : Parts w' v ps := by
  obtain ⟨A, c, rfl, h2⟩ := h
  refine ⟨A, c, rfl, fun i p hp => ?_⟩
  obtain ⟨b, off, u, rfl, h3, h4⟩ := h2 i p hp
  exact ⟨b, off, u, rfl, (hb.cell (p := ⟨b, off + i, none⟩) (World.block_lt_of_cell? _ _ h3)).trans h3, h4.below hb⟩

set_option maxHeartbeats 2000000 in
theorem hOf_any (w : World) (v : Value) (ps : List (List UInt8)) (hv : Parts w v ps) (hlen : ps.flatten.length < 1152921504606846976) (hpl : ps.length < 1152921504606846976) :
    Calls Try.prog 33 #[v] w fun e W' => e = .returned (IdV (shaB ps.flatten)) ∧ Below w.heap.size w W' := by
  obtain ⟨A, c, rfl, h2⟩ := hv
  have b2 := BoxI.new w zeroID_length
  have hA := (Below.refl w.heap.size w).alloc (Nat.le_refl _) (.cells (zeroID.map B8).toArray 23)
  have hs1 : (w.alloc (.cells (zeroID.map B8).toArray 23)).heap.size = w.heap.size + 1 := by rw [World.size_alloc]
  go_enter Try.func33, Try.ntmps33
  go_wp2_with (refine wpList_alloc_id rfl rfl ?_)
  generalize w.alloc (.cells (zeroID.map B8).toArray 23) = w1 at *
  refine (workedOut_any w1).mono ?_
  rintro e w2 ⟨rfl, hB2⟩
  go_simp
  have b22 := b2.below hB2
  have hB20 := hA.trans (hB2.mono hA.size)
  have hs2 : w.heap.size < w2.heap.size := b22.lt
  clear b2 hB2 hs1 hA
  go_wp2_with (first
    | (refine wpList_alloc_e (E := eCn) zeroCn_run rfl rfl ?_
       have z3 := BoxE.new (E := eCn) (t := 98) w2 zeroCn
       have hA3 := (Below.refl w2.heap.size w2).alloc (Nat.le_refl _) (.cells (eCn.enc zeroCn).toArray 98)
       have b23 := b22.below hA3
       generalize w2.alloc (.cells (eCn.enc zeroCn).toArray 98) = w3 at *)
    | (refine wpList_store_e (E := eCn) (u := cnAll) sizeCn rfl (.tmp 3) (.tmp 7) rfl rfl z3 rfl ?_; intro w4 z4 k4)
    | (refine wpList_alloc_e (E := eRn) zeroRn_run rfl rfl ?_
       have z5 := BoxE.new (E := eRn) (t := 101) w4 zeroRn
       have hA5 := (Below.refl w4.heap.size w4).alloc (Nat.le_refl _) (.cells (eRn.enc zeroRn).toArray 101)
       generalize w4.alloc (.cells (eRn.enc zeroRn).toArray 101) = w5 at *))
  have hB30 := hB20.trans (hA3.mono hB20.size)
  have hB40 := hB30.trans (k4.below (B := w.heap.size) (fun j _ e => by omega) hB30.size)
  have hB50 := hB40.trans (hA5.mono hB40.size)
  have b25 := (b23.kept k4 (by omega)).below hA5
  have z45 := BoxE.below z4 hA5
  have hs4 := z4.lt
  have hw4 : w.heap.size ≤ w4.heap.size := hB40.size
  clear hB20 hB30 hB40 b22 b23 z3 hA3 k4 z4
  have H5 : ∀ W, Kept (· = w4.heap.size) w5 W → ∀ i p, ps[i]? = some p → ∃ b off u, A = some ⟨b, off, none⟩ ∧ W.cell? ⟨b, off + i, none⟩ = some u ∧ Bs W u p ∧ (p ≠ [] → ∀ j, u.ownBlock = some j → j ≠ w4.heap.size) := fun W hK i p hp => by
    obtain ⟨b, off, u, e, h3, h4⟩ := h2 i p hp
    have hbl : b < w.heap.size := World.block_lt_of_cell? _ _ h3
    have hob : p ≠ [] → ∀ j, u.ownBlock = some j → j ≠ w4.heap.size := fun hne j hj e => by
      have := h4.lt hne j hj
      omega
    have h5 := Kept.bs1 (Kept.of_below hB50 (Nat.le_refl _) (· = w4.heap.size)) h4 hob
    have h6 := (hB50.cell (p := ⟨b, off + i, none⟩) hbl).trans h3
    exact ⟨b, off, u, e, (hK.cell (p := ⟨b, off + i, none⟩) (by have := hB50.size; show b < w5.heap.size; omega) (by show ¬ b = w4.heap.size; omega)).trans h6, hK.bs1 h5 hob, hob⟩
  go_loopw [6, 10] (fun _ i wr => ∃ (k : Nat) (q : Rn), k ≤ ps.length ∧ i = .int .i64 (k : Int) ∧ BoxR wr w4.heap.size q ∧ Took (ps.take k).flatten q.c q.b ∧ q.n = (ps.take k).flatten.length ∧ Kept (· = w4.heap.size) w5 wr) (fun _ i _ => ps.length - (intOf i).toNat)
  case atStart => exact ⟨0, zeroRn, by omega, rfl, z5, took_nil, rfl, Kept.refl _ _⟩
  case round =>
    clear z5
    obtain ⟨k, q, hkl, rfl, hq, hqt, hqn, hK⟩ := hrel
    have hkc : ElAt eCn wr w2.heap.size 0 cnAll := (BoxE.kept z45 hK (by omega)).at
    by_cases hlt : k < ps.length
    case neg =>
      obtain rfl : k = ps.length := by omega
      rw [List.take_of_length_le (Nat.le_refl _)] at hqt hqn
      have hnl : ¬ (ps.length : Int) < (ps.length : Int) := by omega
      have b2r := b25.kept hK (by omega)
      have hE := end_any wr w4.heap.size w2.heap.size 0 ps.flatten q hq hqt hqn hkc (by omega) hlen
      go_wp2_with fail
      refine hE.mono ?_
      rintro e w6 ⟨rfl, hK6⟩
      have b26 := b2r.kept hK6 (by have := hB50.size; omega)
      have hK7 := hK.same hK6
      have hB60 : Below w.heap.size w w6 := hB50.trans (hK7.below (B := w.heap.size) (fun j _ e => by omega) hB50.size)
      clear hE
      go_simp
      go_wp2_with (refine wpList_store_id rfl (.tmp 2) (.tmp 17) rfl rfl b26 (shaB_length _) rfl ?_; intro w7 y7 k7)
      refine bodyPost_ret (results_id1 rfl _ rfl y7) rfl ?_
      exact ⟨rfl, hB60.trans (k7.below (B := w.heap.size) (fun j _ e => by omega) hB60.size)⟩
    case pos =>
      have hlti : (k : Int) < (ps.length : Int) := by omega
      obtain ⟨p, hp⟩ : ∃ p, ps[k]? = some p := ⟨_, List.getElem?_eq_getElem hlt⟩
      obtain ⟨b, off, u, rfl, h3, h4, h5⟩ := H5 wr hK k p hp
      have hnext : (ps.take (k + 1)).flatten = (ps.take k).flatten ++ p := by
        rw [List.take_add_one, hp, List.flatten_append]
        simp
      have hle : (ps.take k).flatten.length + p.length ≤ ps.flatten.length := by
        have e : ps.flatten = (ps.take (k + 1)).flatten ++ (ps.drop (k + 1)).flatten := by rw [← List.flatten_append, List.take_append_drop]
        rw [e, hnext, List.length_append, List.length_append]
        omega
      have hT := take_any wr w4.heap.size w2.heap.size 0 u (ps.take k).flatten p q hq hqt hqn h4 h5 hkc (by omega) (by omega)
      rw [← hnext] at hT
      clear hnext hle
      go_wp2_with fail
      refine hT.mono ?_
      rintro e w6 ⟨⟨u', rfl⟩, ⟨q', hq', hqt', hqn'⟩, hK6⟩
      clear hT
      go_simp
      go_wp2_with fail
      go_roundw
      case rel => exact ⟨k + 1, q', by omega, by go_num, hq', hqt', hqn', hK.same hK6⟩
      case measure => simp [intOf]; omega
end Go.Proofs.Ytcclifnhbncfcaa
