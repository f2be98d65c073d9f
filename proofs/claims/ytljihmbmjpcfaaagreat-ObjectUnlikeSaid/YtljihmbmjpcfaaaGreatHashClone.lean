/- Compare in the plain form; loads of ids at an operation; ids in a block of one's own. The library's sort, laid at this program's numbers. slices.SortFunc at ids, by Compare. slices.Clone at ids. -/
import Derived.Test.YtljihmbmjpcfaaaGreatIdRows
import Derived.Test.YtljihmbmjpcfaaaGreatIdOrd
import Derived.Deep.Upon
import Derived.Shelf.SlSortCmp.NoneTotal
import Derived.Test.YtljihmbmjpcfaaaGreatChecked
namespace Go.Proofs.YtljihmbmjpcfaaaGreat
open Go.RowKit Go.Great
set_option maxRecDepth 100000

theorem wrapK (n : Int) (h0 : 0 ≤ n) (h1 : n < 9223372036854775808) : IntKind.i64.wrap n = n := by
  simp [IntKind.wrap, IntKind.bits, IntKind.signed]
  omega
theorem below_grow (w : World) (q : Nat) (os : Array Obj) : Below w.heap.size w (Sort.grow (w.drewN q) os) :=
  ⟨rfl, rfl, rfl, by simp [Sort.grow, World.drewN], fun i hi => by
    show (w.heap ++ os)[i]? = w.heap[i]?
    exact Array.getElem?_append_left hi⟩
theorem hCompare_any (w : World) (xs ys : List UInt8) (hx : xs.length = 32) (hy : ys.length = 32) :
    Calls Tryz.prog 72 #[IdV xs, IdV ys] w fun e W' => e = .returned (.int .i64 (cmpB xs ys)) ∧ Below w.heap.size w W' :=
  (hCompare_grow w xs ys hx hy).mono fun _ _ ⟨he, q, os, hw⟩ => ⟨he, hw ▸ below_grow w q os⟩
theorem eval_tmp {a : Act} {t : Nat} {v : Value} (h : a.tmps[t]?.getD undef = v) : a.eval (.tmp t) = v := by
  rw [← h]
  simp [Act.eval, Array.getD_eq_getD_getElem?]
theorem wp_load_idV {o : Oper} {a : Act} {w : World} {K : Act → World → Prop} {Q : Exit → Act → World → Prop} {x : Operand} (ho : o.op = .load 25 x) {b off : Nat} (hx : a.eval x = .pointer (some ⟨b, off, none⟩)) {xs : List UInt8} (h32 : xs.length = 32) (hat : IdAt w b off xs)
    (h : K (a.put o.dst (IdV xs)) w) : o.wp Tryz.prog a w K Q := by
  unfold Oper.wp
  rw [exec_load_id ho hx h32 hat]
  exact h

theorem Kept.setCells {T : Nat → Prop} {w w' : World} {g : Nat} (h : Kept T w w') (hg : T g) : ∀ (vs : List Value) (o : Nat), Kept T w (w'.setCells g o vs) := by
  intro vs
  induction vs generalizing w' with
  | nil => intro o; exact h
  | cons v vs ih => intro o; exact ih (h.setCell (p := ⟨g, o, none⟩) (fun _ => hg) v) (o + 1)

/-- Ids in a block of one's own: each lies there, and may be laid over. -/
structure HoldI (W : World) (g : Nat) (l : List (List UInt8)) : Prop where
  sized : A32 l
  lies : ∀ i x, l[i]? = some x → IdAt W g (i * 32) x
  there : W.there g 0 (l.length * 32)
theorem HoldI.is {W : World} {g c : Nat} {l : List (List UInt8)} (h : HoldI W g l) (hc : l.length ≤ c) : Is W (.slice (some ⟨g, 0, none⟩) l.length c) l :=
  ⟨h.sized, _, _, rfl, hc, fun i x hx => ⟨g, 0, rfl, by rw [Nat.zero_add]; exact h.lies i x hx⟩⟩
theorem HoldI.isFirst {W : World} {g c k : Nat} {l : List (List UInt8)} (h : HoldI W g l) (hk : k ≤ l.length) (hc : k ≤ c) : Is W (.slice (some ⟨g, 0, none⟩) k c) (l.take k) :=
  ⟨fun x hx => h.sized x (List.mem_of_mem_take hx), _, c, by rw [List.length_take, Nat.min_eq_left hk], by rw [List.length_take, Nat.min_eq_left hk]; exact hc, fun i x hx => ⟨g, 0, rfl, by
    rw [Nat.zero_add]
    refine h.lies i x ?_
    rw [List.getElem?_take] at hx
    split at hx
    · exact hx
    · cases hx⟩⟩
theorem HoldI.thereAt {W : World} {g k : Nat} {l : List (List UInt8)} (h : HoldI W g l) (hk : k < l.length) : W.there g (k * 32) 32 := fun j hj => by
  have := h.there (k * 32 + j) (by omega)
  rw [Nat.zero_add] at this
  exact this
theorem HoldI.set {W : World} {g k : Nat} {l : List (List UInt8)} (h : HoldI W g l) (hk : k < l.length) {x : List UInt8} (hx : x.length = 32) : HoldI (W.setCells g (k * 32) (x.map B8)) g (l.set k x) := by
  refine ⟨fun y hy => ?_, fun i y hi => ?_, ?_⟩
  · rcases List.mem_or_eq_of_mem_set hy with h1 | rfl
    · exact h.sized y h1
    · exact hx
  · by_cases hik : i = k
    · subst hik
      rw [List.getElem?_set_self hk] at hi
      cases hi
      exact World.rangeAt_setCells_same W g (i * 32) (x.map B8) (by rw [List.length_map, hx]; exact h.thereAt hk)
    · rw [List.getElem?_set_ne (fun e => hik e.symm)] at hi
      have hy := h.sized y (List.mem_of_getElem? hi)
      exact World.rangeAt_setCells_apart (h.lies i y hi) g (k * 32) (x.map B8) (.inr (by rw [List.length_map, List.length_map, hx, hy]; omega))
  · rw [List.length_set]
    exact World.there_setCells h.there _ _ _
theorem HoldI.below {w w' : World} {g : Nat} {l : List (List UInt8)} (h : HoldI w g l) (hb : Below w.heap.size w w') (hg : g < w.heap.size) : HoldI w' g l := by
  refine ⟨h.sized, fun i x hx => (h.lies i x hx).below hb, fun j hj => ?_⟩
  have h1 := h.there j hj
  have h2 := hb.block g hg
  simp only [World.cell?, World.frozen?, h2] at h1 ⊢
  exact h1
theorem HoldI.drewN {w : World} {g : Nat} {l : List (List UInt8)} (h : HoldI w g l) (q : Nat) : HoldI (w.drewN q) g l := ⟨h.sized, h.lies, h.there⟩
theorem HoldI.drew {w : World} {g : Nat} {l : List (List UInt8)} (h : HoldI w g l) : HoldI w.drew g l := ⟨h.sized, h.lies, h.there⟩
/-- A row of the call's own that is not empty. -/
theorem RowI.hold {W : World} {n : Nat} {v : Value} {l : List (List UInt8)} (h : RowI W n v l) (h0 : 0 < l.length) : ∃ g c, v = .slice (some ⟨g, 0, none⟩) l.length c ∧ l.length ≤ c ∧ n ≤ g ∧ g < W.heap.size ∧ HoldI W g l := by
  have hi := h.is
  rcases h.own.2 with ⟨rfl, h1⟩ | ⟨g, cap, cur, rfl, hb, hg, hn, hm, hs, ht⟩
  · omega
  · refine ⟨g, cap, rfl, hn, hb, (Array.getElem?_eq_some_iff.1 hg).1, h.sized, fun i x hx => ?_, fun j hj => ⟨?_, frozen_of_row W g _ _ _ hg⟩⟩
    · obtain ⟨_, b, off, he, hx'⟩ := hi.at hx
      cases he
      rwa [Nat.zero_add] at hx'
    · have hj' : 0 + j < cur.size := by rw [hs]; have := Nat.mul_le_mul_right 32 hn; omega
      simp [World.cell?, hg] at hj' ⊢
      exact hj'
end Go.Proofs.YtljihmbmjpcfaaaGreat
namespace Go.Proofs.YtljihmbmjpcfaaaGreat
open Go.Shelf
set_option maxRecDepth 100000

def sortRen : Go.Shelf.Ren := ⟨fun | 6 => 77 | 15 => 93 | 14 => 110 | 28 => 128 | 29 => 129 | 20 => 138 | 21 => 139 | 22 => 140 | 23 => 141 | 24 => 142 | 25 => 143 | 26 => 144 | 27 => 145 | 46 => 171 | 47 => 164 | 48 => 165 | 49 => 172 | 50 => 173 | 57 => 182 | n => n, fun | 22 => 26 | 24 => 25 | 25 => 146 | 3 => 3 | 39 => 78 | 0 => 0 | 53 => 112 | 55 => 76 | 4 => 4 | 46 => 223 | 45 => 222 | 50 => 144 | 5 => 5 | 9 => 9 | 66 => 263 | 70 => 267 | 76 => 276 | 77 => 277 | n => n, fun | n => n⟩
theorem sortLay : SlLaysF0.n6 Tryz.prog sortRen := {
  mixed := by kernel_rfl,
  f6 := ⟨Tryz.f77.name, by decide, Tryz.func77.trans (congrArg some (by kernel_rfl))⟩,
  f14 := ⟨Tryz.f110.name, by decide, Tryz.func110.trans (congrArg some (by kernel_rfl))⟩,
  f15 := Tryz.func93.trans (congrArg some (by kernel_rfl)),
  f20 := ⟨Tryz.f138.name, by decide, Tryz.func138.trans (congrArg some (by kernel_rfl))⟩,
  f21 := ⟨Tryz.f139.name, by decide, Tryz.func139.trans (congrArg some (by kernel_rfl))⟩,
  f22 := ⟨Tryz.f140.name, by decide, Tryz.func140.trans (congrArg some (by kernel_rfl))⟩,
  f23 := ⟨Tryz.f141.name, by decide, Tryz.func141.trans (congrArg some (by kernel_rfl))⟩,
  f24 := ⟨Tryz.f142.name, by decide, Tryz.func142.trans (congrArg some (by kernel_rfl))⟩,
  f25 := ⟨Tryz.f143.name, by decide, Tryz.func143.trans (congrArg some (by kernel_rfl))⟩,
  f26 := ⟨Tryz.f144.name, by decide, Tryz.func144.trans (congrArg some (by kernel_rfl))⟩,
  f27 := ⟨Tryz.f145.name, by decide, Tryz.func145.trans (congrArg some (by kernel_rfl))⟩,
  f28 := Tryz.func128.trans (congrArg some (by kernel_rfl)),
  f29 := Tryz.func129.trans (congrArg some (by kernel_rfl)),
  f46 := ⟨Tryz.f171.name, by decide, Tryz.func171.trans (congrArg some (by kernel_rfl))⟩,
  f47 := Tryz.func164.trans (congrArg some (by kernel_rfl)),
  f48 := Tryz.func165.trans (congrArg some (by kernel_rfl)),
  f49 := ⟨Tryz.f172.name, by decide, Tryz.func172.trans (congrArg some (by kernel_rfl))⟩,
  f50 := ⟨Tryz.f173.name, by decide, Tryz.func173.trans (congrArg some (by kernel_rfl))⟩,
  f57 := ⟨Tryz.f182.name, by decide, Tryz.func182.trans (congrArg some (by kernel_rfl))⟩,
  t0 := Tryz.underlying0,
  a0 := Tryz.isAgg0,
  z0 := Tryz.sizeOf0,
  v0 := Tryz.zeroValue0,
  t3 := Tryz.underlying3,
  a3 := Tryz.isAgg3,
  z3 := Tryz.sizeOf3,
  v3 := Tryz.zeroValue3,
  t4 := Tryz.underlying4,
  a4 := Tryz.isAgg4,
  z4 := Tryz.sizeOf4,
  v4 := Tryz.zeroValue4,
  t5 := Tryz.underlying5,
  a5 := Tryz.isAgg5,
  z5 := Tryz.sizeOf5,
  v5 := Tryz.zeroValue5,
  t9 := Tryz.underlying9,
  a9 := Tryz.isAgg9,
  z9 := Tryz.sizeOf9,
  v9 := Tryz.zeroValue9,
  t22 := Tryz.underlying26,
  a22 := Tryz.isAgg26,
  z22 := Tryz.sizeOf26,
  v22 := Tryz.zeroValue26,
  t25 := Tryz.underlying146,
  a25 := Tryz.isAgg146,
  z25 := Tryz.sizeOf146,
  v25 := Tryz.zeroValue146,
  t39 := Tryz.underlying78,
  a39 := Tryz.isAgg78,
  z39 := Tryz.sizeOf78,
  v39 := Tryz.zeroValue78,
  t45 := Tryz.underlying222,
  a45 := Tryz.isAgg222,
  z45 := Tryz.sizeOf222,
  v45 := Tryz.zeroValue222,
  t46 := Tryz.underlying223,
  a46 := Tryz.isAgg223,
  z46 := Tryz.sizeOf223,
  v46 := Tryz.zeroValue223,
  t50 := Tryz.underlying144,
  a50 := Tryz.isAgg144,
  z50 := Tryz.sizeOf144,
  v50 := Tryz.zeroValue144,
  t53 := Tryz.underlying112,
  a53 := Tryz.isAgg112,
  z53 := Tryz.sizeOf112,
  v53 := Tryz.zeroValue112,
  t55 := Tryz.underlying76,
  a55 := Tryz.isAgg76,
  z55 := Tryz.sizeOf76,
  v55 := Tryz.zeroValue76,
  t66 := Tryz.underlying263,
  a66 := Tryz.isAgg263,
  z66 := Tryz.sizeOf263,
  v66 := Tryz.zeroValue263,
  t70 := Tryz.underlying267,
  a70 := Tryz.isAgg267,
  z70 := Tryz.sizeOf267,
  v70 := Tryz.zeroValue267,
  t76 := Tryz.underlying276,
  a76 := Tryz.isAgg276,
  z76 := Tryz.sizeOf276,
  v76 := Tryz.zeroValue276,
  t77 := Tryz.underlying277,
  a77 := Tryz.isAgg277,
  z77 := Tryz.sizeOf277,
  v77 := Tryz.zeroValue277 }
end Go.Proofs.YtljihmbmjpcfaaaGreat
namespace Go.Proofs.YtljihmbmjpcfaaaGreat
open Go.RowKit Go.Great Go.Sort Go.Shelf
set_option maxRecDepth 100000

abbrev Id32 := { xs : List UInt8 // xs.length = 32 }
instance : Inhabited Id32 := ⟨⟨zeroID, rfl⟩⟩
def encI (x : Id32) : List Value := x.1.map B8
def cfI (x y : Id32) : Int := cmpB x.1 y.1
theorem ltI (x y : Id32) : ltOf cfI x y = decide (cmpB x.1 y.1 < 0) := rfl
theorem swoI : SWO (ltOf cfI) where
  irrefl x := by rw [ltI, cmpB_same]; rfl
  trans x y z h1 h2 := by
    rw [ltI] at *
    simp only [decide_eq_true_eq] at *
    exact cmpB_trans _ _ _ (by rw [x.2, y.2]) (by rw [y.2, z.2]) h1 h2
  ntrans x y z h1 h2 := by
    rw [ltI] at *
    simp only [decide_eq_false_iff_not] at *
    have n1 := cmpB_neg x.1 y.1
    have n2 := cmpB_neg y.1 z.1
    have n3 := cmpB_neg x.1 z.1
    have := cmpB_le_trans z.2 y.2 x.2 (by omega) (by omega)
    omega
theorem totI (x y : Id32) (h1 : ltOf cfI x y = false) (h2 : ltOf cfI y x = false) : x = y := by
  rw [ltI] at *
  simp only [decide_eq_false_iff_not] at *
  have n1 := cmpB_neg x.1 y.1
  exact Subtype.ext (cmpB_zero _ _ (by rw [x.2, y.2]) (by omega))
theorem lift32 : ∀ (l : List (List UInt8)), A32 l → ∃ d : List Id32, d.map (·.1) = l
  | [], _ => ⟨[], rfl⟩
  | x :: l, h => by
    obtain ⟨d, hd⟩ := lift32 l (fun y hy => h y (List.mem_cons_of_mem _ hy))
    exact ⟨⟨x, h x List.mem_cons_self⟩ :: d, by rw [List.map_cons, hd]⟩
theorem holdsK_of {w : World} {g : Nat} (d : List Id32) (h : HoldI w g (d.map (·.1))) : HoldsK encI 32 w g 0 d.toArray := by
  intro t ht
  rw [size_flatK, List.size_toArray] at ht
  rw [get_flatK _ _ _ _ (by rw [List.size_toArray]; exact ht)]
  have hi : t / 32 < d.length := by omega
  have h1 := h.there t (by rw [List.length_map]; exact ht)
  refine ⟨?_, h1.2⟩
  have hx : (d.map (·.1))[t / 32]? = some (d[t / 32]).1 := by rw [List.getElem?_map, List.getElem?_eq_getElem hi]; rfl
  have hl := (d[t / 32]).2
  have h2 := (h.lies _ _ hx).cell (j := t % 32) (x := (d[t / 32]).1[t % 32]'(by omega)) (List.getElem?_eq_getElem (by omega))
  rw [show t / 32 * 32 + t % 32 = t by omega] at h2
  rw [Nat.zero_add, h2]
  have e1 : d.toArray[t / 32]! = d[t / 32] := by rw [getElem!_pos d.toArray (t / 32) (by simpa using hi)]; simp
  rw [e1]
  have e2 : (encI d[t / 32])[t % 32]! = B8 ((d[t / 32]).1[t % 32]'(by omega)) := by
    rw [getElem!_pos (encI d[t / 32]) (t % 32) (by simp [encI]; omega)]
    simp [encI]
  rw [e2]
  rfl
theorem holdI_of {w : World} {g : Nat} (d : List Id32) (h : HoldsK encI 32 w g 0 d.toArray) : HoldI w g (d.map (·.1)) := by
  have hc := fun i c (hi : i < d.length) (hcc : c < 32) => h.cell (i := i) (c := c) (by simpa using hi) hcc
  refine ⟨fun x hx => ?_, fun i x hx j v hv => ?_, fun j hj => ?_⟩
  · obtain ⟨y, _, rfl⟩ := List.mem_map.1 hx
    exact y.2
  · rw [List.getElem?_map] at hx
    obtain ⟨y, hy, rfl⟩ := Option.map_eq_some_iff.1 hx
    obtain ⟨hi, rfl⟩ := List.getElem?_eq_some_iff.1 hy
    have hj : j < 32 := by have := (List.getElem?_eq_some_iff.1 hv).1; have h2 := (d[i]).2; simp at this; omega
    have h1 := (hc i j hi hj).1
    rw [Nat.zero_add] at h1
    have e1 : d.toArray[i]! = d[i] := by rw [getElem!_pos d.toArray i (by simpa using hi)]; simp
    rw [e1] at h1
    rw [h1]
    have hv' : (encI d[i])[j]? = some v := hv
    rw [List.getElem!_eq_getElem?_getD, hv']
    rfl
  · rw [List.length_map] at hj
    have h1 := hc (j / 32) (j % 32) (by omega) (by omega)
    rw [show 0 + j / 32 * 32 + j % 32 = 0 + j by omega] at h1
    exact ⟨by rw [h1.1]; rfl, h1.2⟩

set_option maxHeartbeats 1000000 in
theorem idSort_some (w : World) (g c : Nat) (l : List (List UInt8)) (h : HoldI w g l) (hg : g < w.heap.size) (hl : l.length ≤ 1000000) :
    Calls Tryz.prog 77 #[.slice (some ⟨g, 0, none⟩) l.length c, .func (.func 72) #[] #[]] w fun e W' => e = .returned (.tuple #[]) ∧ ∃ l', l'.Perm l ∧ (l'.Pairwise fun a b => cmpB a b ≤ 0) ∧ HoldI W' g l' ∧ Kept (· = g) w W' := by
  obtain ⟨d, rfl⟩ := lift32 l h.sized
  have hH := holdsK_of d h
  have eg : ∀ args w, (callFunc 72 args).run Tryz.prog w = .ok (.enter 72 args) w := enters_of Tryz.func72 (by kernel_rfl) rfl
  have hcmp : CmpLays Tryz.prog 72 #[] encI 32 cfI g 0 d.toArray.size w := fun _ _ _ _ x y => hCompare_grow _ x.1 y.1 x.2 y.2
  have hcon := AnyQ.slices_SortFunc_total sortLay 32 Tryz.isAgg25 Tryz.sizeOf25 encI (fun x => by simp [encI, x.2]) (fun x v hv => bs_oneCell x.1 v hv) cfI swoI 72 #[] g 0 c d.toArray w eg hcmp hH hg (by simp at hl ⊢; omega) totI
  change Calls Tryz.prog 77 _ _ _ at hcon
  rw [List.length_map]
  rw [List.size_toArray] at hcon
  refine hcon.mono ?_
  rintro e W' ⟨rfl, n, os, rfl⟩
  obtain ⟨ms, hms⟩ : ∃ ms, ms = d.mergeSort fun x y => !(ltOf cfI) y x := ⟨_, rfl⟩
  rw [← hms]
  have hp : ms.Perm d := by rw [hms]; exact List.mergeSort_perm d _
  have hs : ms.Pairwise fun x y => (!(ltOf cfI) y x) = true := by
    rw [hms]
    refine List.pairwise_mergeSort (fun a b c h1 h2 => ?_) (fun a b => ?_) d
    · simp only [Bool.not_eq_true'] at *
      exact swoI.ntrans _ _ _ h2 h1
    · simp only [Bool.or_eq_true, Bool.not_eq_true', ltI, decide_eq_false_iff_not]
      have := cmpB_neg a.1 b.1
      omega
  refine ⟨rfl, ms.map (·.1), hp.map _, ?_, ?_, ?_⟩
  · rw [List.pairwise_map]
    refine hs.imp fun {a b} hab => ?_
    simp only [Bool.not_eq_true', ltI, decide_eq_false_iff_not] at hab
    have := cmpB_neg a.1 b.1
    omega
  · refine holdI_of ms ?_
    unfold sortWorldK
    refine holdsK_grow encI 32 _ os g 0 _ (by unfold putRowK; rw [size_putRow]; exact hg) ?_
    exact holdsK_putRowK encI 32 _ g 0 d.toArray _ (holdsK_ahead encI 32 w n g 0 _ hH) (by simpa using hp.length_eq)
  · refine ⟨rfl, rfl, rfl, ?_, fun k hk hne => ?_⟩
    · unfold sortWorldK putRowK grow
      simp only [Array.size_append, size_putRow]
      show w.heap.size ≤ w.heap.size + os.size
      omega
    · show ((w.heap.modify g _) ++ os)[k]? = w.heap[k]?
      rw [Array.getElem?_append_left (by rw [Array.size_modify]; exact hk), Array.getElem?_modify, if_neg (fun e => hne e.symm)]
theorem idSort_none (w : World) (A : Option Addr) (c : Nat) : Calls Tryz.prog 77 #[.slice A 0 c, .func (.func 72) #[] #[]] w fun e W' => e = .returned (.tuple #[]) ∧ W' = w :=
  AnyF.slices_SortFunc_none sortLay A c _ w
end Go.Proofs.YtljihmbmjpcfaaaGreat
namespace Go.Proofs.YtljihmbmjpcfaaaGreat
open Go.RowKit Go.Great
set_option maxRecDepth 100000

theorem RowI.made (w : World) : RowI (w.alloc (.cells #[] 25)) w.heap.size (.slice (some ⟨w.heap.size, 0, none⟩) 0 0) [] :=
  ⟨by simp, World.ownsRow_made w #[] 0 (Nat.le_refl _) (by simp [maxLen]) rfl⟩
set_option maxHeartbeats 400000 in
theorem idClone_none (w : World) (c : Nat) : Calls Tryz.prog 76 #[.slice none 0 c] w fun e W' => e = .returned (.slice none 0 0) ∧ w = W' := by
  have he := fun wx => Lib.run_eql_slice_nil (P := Tryz.prog) wx 26 25 none 0 c 0 0 Tryz.underlying26
  go_enter Tryz.func76, Tryz.ntmps76
  go_wp2
  go_ret
  exact ⟨rfl, rfl⟩
set_option maxHeartbeats 400000 in
theorem idClone_some (w : World) (ad : Addr) (c : Nat) (l : List (List UInt8)) (hs : Is w (.slice (some ad) l.length c) l) (hl : l.length ≤ 1000) :
    Calls Tryz.prog 76 #[.slice (some ad) l.length c] w fun e W' => ∃ v', e = .returned v' ∧ RowI W' w.heap.size v' l ∧ Below w.heap.size w W' := by
  have he := fun wx => Lib.run_eql_slice_nil (P := Tryz.prog) wx 26 25 (some ad) l.length c 0 0 Tryz.underlying26
  have hrow := RowI.made w
  have hB : Below w.heap.size w (w.alloc (.cells #[] 25)) := (Below.refl _ w).alloc (Nat.le_refl _) _
  have hs1 := hs.below hB
  go_enter Tryz.func76, Tryz.ntmps76
  go_wp2_with (at_builtin; refine wpList_append_is rfl (.tmp 5) (.tmp 6) rfl w.heap.size _ [] rfl hrow _ l rfl hs1 (by simp; omega) (by simp) ?_; intro v' w1 hown1 hg1 hv1)
  go_ret
  exact ⟨v', rfl, hown1, hB.trans ((Kept.of_grown hg1).below (fun j _ e => (hrow.own.lt j e).1) hB.size)⟩
theorem idClone_any (w : World) (v : Value) (l : List (List UInt8)) (hs : Is w v l) (hl : l.length ≤ 1000) :
    Calls Tryz.prog 76 #[v] w fun e W' => ∃ v', e = .returned v' ∧ RowI W' w.heap.size v' l ∧ Below w.heap.size w W' := by
  obtain ⟨A, c, rfl, hc⟩ := hs.form
  cases A with
  | none =>
    have h0 : l = [] := by
      cases l with
      | nil => rfl
      | cons x l => obtain ⟨_, b, off, he, _⟩ := hs.at (i := 0) (x := x) rfl; cases he
    subst h0
    exact (idClone_none w c).mono fun e W' ⟨he, hw⟩ => ⟨_, he, RowI.nil _ _, hw ▸ Below.refl _ _⟩
  | some ad => exact idClone_some w ad c l hs hl
end Go.Proofs.YtljihmbmjpcfaaaGreat
