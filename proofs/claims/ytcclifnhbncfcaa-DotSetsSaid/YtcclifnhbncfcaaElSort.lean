/- slices.SortFunc at elements of some cells each, by one order. -/
import Derived.Test.YtcclifnhbncfcaaElem
import Derived.Test.YtcclifnhbncfcaaElOrd
import Derived.Shelf.SlSortCmp.NoneTotal
namespace Go.Proofs.Ytcclifnhbncfcaa
open Go.RowKit Go.Great Go.Sort Go.Shelf
section
variable {α : Type} {E : Elt α} {cf : α → α → Int}
theorem TotC.swo (T : TotC cf) : SWO (ltOf cf) where
  irrefl x := by show decide (cf x x < 0) = false; rw [T.same]; rfl
  trans x y z h1 h2 := by
    have h1' : decide (cf x y < 0) = true := h1
    have h2' : decide (cf y z < 0) = true := h2
    show decide (cf x z < 0) = true
    simp only [decide_eq_true_eq] at *
    exact T.trans _ _ _ h1' h2'
  ntrans x y z h1 h2 := by
    have h1' : decide (cf x y < 0) = false := h1
    have h2' : decide (cf y z < 0) = false := h2
    show decide (cf x z < 0) = false
    simp only [decide_eq_false_iff_not] at *
    have n1 := T.neg x y
    have n2 := T.neg y z
    have n3 := T.neg x z
    have := T.le_trans (a := z) (b := y) (c := x) (by omega) (by omega)
    omega
theorem TotC.parts (T : TotC cf) (x y : α) (h1 : ltOf cf x y = false) (h2 : ltOf cf y x = false) : x = y := by
  have h1' : decide (cf x y < 0) = false := h1
  have h2' : decide (cf y x < 0) = false := h2
  simp only [decide_eq_false_iff_not] at *
  have n1 := T.neg x y
  exact T.zero _ _ (by omega)
variable [Inhabited α]
theorem holdsK_of {w : World} {g : Nat} (d : List α) (h : HoldE E w g d) : HoldsK E.enc E.k w g 0 d.toArray := by
  intro t ht
  have hk := E.pos
  rw [size_flatK, List.size_toArray] at ht
  rw [get_flatK _ _ _ _ (by rw [List.size_toArray]; exact ht)]
  have hi : t / E.k < d.length := (Nat.div_lt_iff_lt_mul hk).2 ht
  have hr : t % E.k < E.k := Nat.mod_lt _ hk
  have h1 := h.there t ht
  refine ⟨?_, h1.2⟩
  have hx : d[t / E.k]? = some d[t / E.k] := List.getElem?_eq_getElem hi
  have hl : (E.enc d[t / E.k]).length = E.k := E.len _
  have h2 := h.lies _ _ hx (t % E.k) _ (List.getElem?_eq_getElem (by omega))
  have hdm : t / E.k * E.k + t % E.k = t := by rw [Nat.mul_comm]; exact Nat.div_add_mod t E.k
  rw [hdm] at h2
  rw [Nat.zero_add, h2]
  have e1 : d.toArray[t / E.k]! = d[t / E.k] := by rw [getElem!_pos d.toArray (t / E.k) (by simpa using hi)]; simp
  rw [e1, getElem!_pos (E.enc d[t / E.k]) (t % E.k) (by omega)]
  rfl
theorem holdE_of {w : World} {g : Nat} (d : List α) (h : HoldsK E.enc E.k w g 0 d.toArray) : HoldE E w g d := by
  have hc := fun i c (hi : i < d.length) (hcc : c < E.k) => h.cell (i := i) (c := c) (by simpa using hi) hcc
  refine ⟨fun i x hx j v hv => ?_, fun j hj => ?_⟩
  · obtain ⟨hi, rfl⟩ := List.getElem?_eq_some_iff.1 hx
    have hj : j < E.k := by have := (List.getElem?_eq_some_iff.1 hv).1; rw [E.len] at this; exact this
    have h1 := (hc i j hi hj).1
    rw [Nat.zero_add] at h1
    have e1 : d.toArray[i]! = d[i] := by rw [getElem!_pos d.toArray i (by simpa using hi)]; simp
    rw [e1] at h1
    rw [h1, List.getElem!_eq_getElem?_getD, hv]
    rfl
  · have hk := E.pos
    have hdm : j / E.k * E.k + j % E.k = j := by rw [Nat.mul_comm]; exact Nat.div_add_mod j E.k
    have h1 := hc (j / E.k) (j % E.k) ((Nat.div_lt_iff_lt_mul hk).2 hj) (Nat.mod_lt _ hk)
    rw [Nat.add_assoc, hdm] at h1
    exact ⟨by rw [h1.1]; rfl, h1.2⟩

set_option maxHeartbeats 1000000 in
theorem elSort_some {P : Program} {ρ : Ren} (L : SlLaysF0.n6 P ρ) (aE : ∀ w, (isAgg (ρ.t 24)).run P w = .ok true w) (zE : ∀ w, (Go.sizeOf (ρ.t 24)).run P w = .ok E.k w) (T : TotC cf) (f : Nat) (cb : Array Value)
    (eg : ∀ args w, (callFunc f args).run P w = .ok (.enter f args) w)
    (hcmp : ∀ (w : World) (x y : α), Calls P f (#[E.val x, E.val y] ++ cb) w fun e w' => e = .returned (.int .i64 (cf x y)) ∧ ∃ q os', w' = grow (w.drewN q) os')
    (w : World) (g c : Nat) (l : List α) (h : HoldE E w g l) (hg : g < w.heap.size) (hl : l.length ≤ 1000000) :
    Calls P (ρ.f 6) #[.slice (some ⟨g, 0, none⟩) l.length c, .func (.func f) #[] cb] w fun e W' => e = .returned (.tuple #[]) ∧ ∃ l', l'.Perm l ∧ (l'.Pairwise fun a b => cf a b ≤ 0) ∧ HoldE E W' g l' ∧ Kept (· = g) w W' := by
  have hH := holdsK_of l h
  have hC : CmpLays P f cb E.enc E.k cf g 0 l.toArray.size w := fun _ _ _ _ x y => hcmp _ x y
  have hcon := AnyQ.slices_SortFunc_total L E.k aE zE E.enc E.len E.one cf T.swo f cb g 0 c l.toArray w eg hC hH hg (by simp at hl ⊢; omega) T.parts
  rw [List.size_toArray] at hcon
  refine hcon.mono ?_
  rintro e W' ⟨rfl, n, os, rfl⟩
  obtain ⟨ms, hms⟩ : ∃ ms, ms = l.mergeSort fun x y => !(ltOf cf) y x := ⟨_, rfl⟩
  rw [← hms]
  have hp : ms.Perm l := by rw [hms]; exact List.mergeSort_perm l _
  have hs : ms.Pairwise fun x y => (!(ltOf cf) y x) = true := by
    rw [hms]
    refine List.pairwise_mergeSort (fun a b c h1 h2 => ?_) (fun a b => ?_) l
    · simp only [Bool.not_eq_true'] at *
      exact T.swo.ntrans _ _ _ h2 h1
    · have := T.neg a b
      show (!decide (cf b a < 0) || !decide (cf a b < 0)) = true
      simp only [Bool.or_eq_true, Bool.not_eq_true', decide_eq_false_iff_not]
      omega
  refine ⟨rfl, ms, hp, ?_, ?_, ?_⟩
  · refine hs.imp fun {a b} hab => ?_
    have hab' : (!decide (cf b a < 0)) = true := hab
    simp only [Bool.not_eq_true', decide_eq_false_iff_not] at hab'
    have := T.neg a b
    omega
  · refine holdE_of ms ?_
    unfold sortWorldK
    refine holdsK_grow E.enc E.k _ os g 0 _ (by unfold putRowK; rw [size_putRow]; exact hg) ?_
    exact holdsK_putRowK E.enc E.k _ g 0 l.toArray _ (holdsK_ahead E.enc E.k w n g 0 _ hH) (by simpa using hp.length_eq)
  · refine ⟨rfl, rfl, rfl, ?_, fun k hk hne => ?_⟩
    · unfold sortWorldK putRowK grow
      simp only [Array.size_append, size_putRow]
      show w.heap.size ≤ w.heap.size + os.size
      omega
    · show ((w.heap.modify g _) ++ os)[k]? = w.heap[k]?
      rw [Array.getElem?_append_left (by rw [Array.size_modify]; exact hk), Array.getElem?_modify, if_neg (fun e => hne e.symm)]
end
end Go.Proofs.Ytcclifnhbncfcaa
