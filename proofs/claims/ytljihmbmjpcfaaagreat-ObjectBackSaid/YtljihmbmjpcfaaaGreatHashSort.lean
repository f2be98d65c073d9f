/- slices.SortFunc at ids, by Compare. -/
import Derived.Test.YtljihmbmjpcfaaaGreatHashClone
import Derived.Test.YtljihmbmjpcfaaaGreatHashSortLay
namespace Go.Proofs.YtljihmbmjpcfaaaGreat
open Go.RowKit Go.Great Go.Sort Go.Shelf
set_option maxRecDepth 100000

abbrev Id32 := { xs : List UInt8 // xs.length = 32 }
instance : Inhabited Id32 := ⟨⟨zeroID, rfl⟩⟩
def encI (x : Id32) : List Value := x.1.map B8
def cfI (x y : Id32) : Int := cmpB x.1 y.1
theorem ltI (x y : Id32) : ltOf cfI x y = decide (cmpB x.1 y.1 < 0) := rfl
theorem swoI : SWO (ltOf cfI) where
  irrefl x := by rw [ltI, cmpB_same]; rfl
  trans x y z h1 h2 := by
    rw [ltI] at *
    simp only [decide_eq_true_eq] at *
    exact cmpB_trans _ _ _ (by rw [x.2, y.2]) (by rw [y.2, z.2]) h1 h2
  ntrans x y z h1 h2 := by
    rw [ltI] at *
    simp only [decide_eq_false_iff_not] at *
    have n1 := cmpB_neg x.1 y.1
    have n2 := cmpB_neg y.1 z.1
    have n3 := cmpB_neg x.1 z.1
    have := cmpB_le_trans z.2 y.2 x.2 (by omega) (by omega)
    omega
theorem totI (x y : Id32) (h1 : ltOf cfI x y = false) (h2 : ltOf cfI y x = false) : x = y := by
  rw [ltI] at *
  simp only [decide_eq_false_iff_not] at *
  have n1 := cmpB_neg x.1 y.1
  exact Subtype.ext (cmpB_zero _ _ (by rw [x.2, y.2]) (by omega))
theorem lift32 : ∀ (l : List (List UInt8)), A32 l → ∃ d : List Id32, d.map (·.1) = l
  | [], _ => ⟨[], rfl⟩
  | x :: l, h => by
    obtain ⟨d, hd⟩ := lift32 l (fun y hy => h y (List.mem_cons_of_mem _ hy))
    exact ⟨⟨x, h x List.mem_cons_self⟩ :: d, by rw [List.map_cons, hd]⟩
theorem holdsK_of {w : World} {g : Nat} (d : List Id32) (h : HoldI w g (d.map (·.1))) : HoldsK encI 32 w g 0 d.toArray := by
  intro t ht
  rw [size_flatK, List.size_toArray] at ht
  rw [get_flatK _ _ _ _ (by rw [List.size_toArray]; exact ht)]
  have hi : t / 32 < d.length := by omega
  have h1 := h.there t (by rw [List.length_map]; exact ht)
  refine ⟨?_, h1.2⟩
  have hx : (d.map (·.1))[t / 32]? = some (d[t / 32]).1 := by rw [List.getElem?_map, List.getElem?_eq_getElem hi]; rfl
  have hl := (d[t / 32]).2
  have h2 := (h.lies _ _ hx).cell (j := t % 32) (x := (d[t / 32]).1[t % 32]'(by omega)) (List.getElem?_eq_getElem (by omega))
  rw [show t / 32 * 32 + t % 32 = t by omega] at h2
  rw [Nat.zero_add, h2]
  have e1 : d.toArray[t / 32]! = d[t / 32] := by rw [getElem!_pos d.toArray (t / 32) (by simpa using hi)]; simp
  rw [e1]
  have e2 : (encI d[t / 32])[t % 32]! = B8 ((d[t / 32]).1[t % 32]'(by omega)) := by
    rw [getElem!_pos (encI d[t / 32]) (t % 32) (by simp [encI]; omega)]
    simp [encI]
  rw [e2]
  rfl
theorem holdI_of {w : World} {g : Nat} (d : List Id32) (h : HoldsK encI 32 w g 0 d.toArray) : HoldI w g (d.map (·.1)) := by
  have hc := fun i c (hi : i < d.length) (hcc : c < 32) => h.cell (i := i) (c := c) (by simpa using hi) hcc
  refine ⟨fun x hx => ?_, fun i x hx j v hv => ?_, fun j hj => ?_⟩
  · obtain ⟨y, _, rfl⟩ := List.mem_map.1 hx
    exact y.2
  · rw [List.getElem?_map] at hx
    obtain ⟨y, hy, rfl⟩ := Option.map_eq_some_iff.1 hx
    obtain ⟨hi, rfl⟩ := List.getElem?_eq_some_iff.1 hy
    have hj : j < 32 := by have := (List.getElem?_eq_some_iff.1 hv).1; have h2 := (d[i]).2; simp at this; omega
    have h1 := (hc i j hi hj).1
    rw [Nat.zero_add] at h1
    have e1 : d.toArray[i]! = d[i] := by rw [getElem!_pos d.toArray i (by simpa using hi)]; simp
    rw [e1] at h1
    rw [h1]
    have hv' : (encI d[i])[j]? = some v := hv
    rw [List.getElem!_eq_getElem?_getD, hv']
    rfl
  · rw [List.length_map] at hj
    have h1 := hc (j / 32) (j % 32) (by omega) (by omega)
    rw [show 0 + j / 32 * 32 + j % 32 = 0 + j by omega] at h1
    exact ⟨by rw [h1.1]; rfl, h1.2⟩

set_option maxHeartbeats 1000000 in
theorem idSort_some (w : World) (g c : Nat) (l : List (List UInt8)) (h : HoldI w g l) (hg : g < w.heap.size) (hl : l.length ≤ 1000000) :
    Calls Tryz.prog 77 #[.slice (some ⟨g, 0, none⟩) l.length c, .func (.func 72) #[] #[]] w fun e W' => e = .returned (.tuple #[]) ∧ ∃ l', l'.Perm l ∧ (l'.Pairwise fun a b => cmpB a b ≤ 0) ∧ HoldI W' g l' ∧ Kept (· = g) w W' := by
  obtain ⟨d, rfl⟩ := lift32 l h.sized
  have hH := holdsK_of d h
  have eg : ∀ args w, (callFunc 72 args).run Tryz.prog w = .ok (.enter 72 args) w := enters_of Tryz.func72 (by kernel_rfl) rfl
  have hcmp : CmpLays Tryz.prog 72 #[] encI 32 cfI g 0 d.toArray.size w := fun _ _ _ _ x y => hCompare_grow _ x.1 y.1 x.2 y.2
  have hcon := AnyQ.slices_SortFunc_total sortLay 32 Tryz.isAgg25 Tryz.sizeOf25 encI (fun x => by simp [encI, x.2]) (fun x v hv => bs_oneCell x.1 v hv) cfI swoI 72 #[] g 0 c d.toArray w eg hcmp hH hg (by simp at hl ⊢; omega) totI
  change Calls Tryz.prog 77 _ _ _ at hcon
  rw [List.length_map]
  rw [List.size_toArray] at hcon
  refine hcon.mono ?_
  rintro e W' ⟨rfl, n, os, rfl⟩
  obtain ⟨ms, hms⟩ : ∃ ms, ms = d.mergeSort fun x y => !(ltOf cfI) y x := ⟨_, rfl⟩
  rw [← hms]
  have hp : ms.Perm d := by rw [hms]; exact List.mergeSort_perm d _
  have hs : ms.Pairwise fun x y => (!(ltOf cfI) y x) = true := by
    rw [hms]
    refine List.pairwise_mergeSort (fun a b c h1 h2 => ?_) (fun a b => ?_) d
    · simp only [Bool.not_eq_true'] at *
      exact swoI.ntrans _ _ _ h2 h1
    · simp only [Bool.or_eq_true, Bool.not_eq_true', ltI, decide_eq_false_iff_not]
      have := cmpB_neg a.1 b.1
      omega
  refine ⟨rfl, ms.map (·.1), hp.map _, ?_, ?_, ?_⟩
  · rw [List.pairwise_map]
    refine hs.imp fun {a b} hab => ?_
    simp only [Bool.not_eq_true', ltI, decide_eq_false_iff_not] at hab
    have := cmpB_neg a.1 b.1
    omega
  · refine holdI_of ms ?_
    unfold sortWorldK
    refine holdsK_grow encI 32 _ os g 0 _ (by unfold putRowK; rw [size_putRow]; exact hg) ?_
    exact holdsK_putRowK encI 32 _ g 0 d.toArray _ (holdsK_ahead encI 32 w n g 0 _ hH) (by simpa using hp.length_eq)
  · refine ⟨rfl, rfl, rfl, ?_, fun k hk hne => ?_⟩
    · unfold sortWorldK putRowK grow
      simp only [Array.size_append, size_putRow]
      show w.heap.size ≤ w.heap.size + os.size
      omega
    · show ((w.heap.modify g _) ++ os)[k]? = w.heap[k]?
      rw [Array.getElem?_append_left (by rw [Array.size_modify]; exact hk), Array.getElem?_modify, if_neg (fun e => hne e.symm)]
theorem idSort_none (w : World) (A : Option Addr) (c : Nat) : Calls Tryz.prog 77 #[.slice A 0 c, .func (.func 72) #[] #[]] w fun e W' => e = .returned (.tuple #[]) ∧ W' = w :=
  AnyF.slices_SortFunc_none sortLay A c _ w
end Go.Proofs.YtljihmbmjpcfaaaGreat
