/- Compare in the plain form; loads of ids at an operation; ids in a block of one's own. slices.Clone at ids. -/
import Derived.Test.YtljihmbmjpcfaaaGreatHashCmp
import Derived.Test.YtljihmbmjpcfaaaGreatIdOrd
import Derived.Test.YtljihmbmjpcfaaaGreatIdRows
import Derived.Deep.Upon
namespace Go.Proofs.YtljihmbmjpcfaaaGreat
open Go.RowKit Go.Great
set_option maxRecDepth 100000

theorem wrapK (n : Int) (h0 : 0 ≤ n) (h1 : n < 9223372036854775808) : IntKind.i64.wrap n = n := by
  simp [IntKind.wrap, IntKind.bits, IntKind.signed]
  omega
theorem below_grow (w : World) (q : Nat) (os : Array Obj) : Below w.heap.size w (Sort.grow (w.drewN q) os) :=
  ⟨rfl, rfl, rfl, by simp [Sort.grow, World.drewN], fun i hi => by
    show (w.heap ++ os)[i]? = w.heap[i]?
    exact Array.getElem?_append_left hi⟩
theorem hCompare_any (w : World) (xs ys : List UInt8) (hx : xs.length = 32) (hy : ys.length = 32) :
    Calls Tryz.prog 72 #[IdV xs, IdV ys] w fun e W' => e = .returned (.int .i64 (cmpB xs ys)) ∧ Below w.heap.size w W' :=
  (hCompare_grow w xs ys hx hy).mono fun _ _ ⟨he, q, os, hw⟩ => ⟨he, hw ▸ below_grow w q os⟩
theorem eval_tmp {a : Act} {t : Nat} {v : Value} (h : a.tmps[t]?.getD undef = v) : a.eval (.tmp t) = v := by
  rw [← h]
  simp [Act.eval, Array.getD_eq_getD_getElem?]
theorem wp_load_idV {o : Oper} {a : Act} {w : World} {K : Act → World → Prop} {Q : Exit → Act → World → Prop} {x : Operand} (ho : o.op = .load 25 x) {b off : Nat} (hx : a.eval x = .pointer (some ⟨b, off, none⟩)) {xs : List UInt8} (h32 : xs.length = 32) (hat : IdAt w b off xs)
    (h : K (a.put o.dst (IdV xs)) w) : o.wp Tryz.prog a w K Q := by
  unfold Oper.wp
  rw [exec_load_id ho hx h32 hat]
  exact h

theorem Kept.setCells {T : Nat → Prop} {w w' : World} {g : Nat} (h : Kept T w w') (hg : T g) : ∀ (vs : List Value) (o : Nat), Kept T w (w'.setCells g o vs) := by
  intro vs
  induction vs generalizing w' with
  | nil => intro o; exact h
  | cons v vs ih => intro o; exact ih (h.setCell (p := ⟨g, o, none⟩) (fun _ => hg) v) (o + 1)

/-- Ids in a block of one's own: each lies there, and may be laid over. -/
structure HoldI (W : World) (g : Nat) (l : List (List UInt8)) : Prop where
  sized : A32 l
  lies : ∀ i x, l[i]? = some x → IdAt W g (i * 32) x
  there : W.there g 0 (l.length * 32)
theorem HoldI.is {W : World} {g c : Nat} {l : List (List UInt8)} (h : HoldI W g l) (hc : l.length ≤ c) : Is W (.slice (some ⟨g, 0, none⟩) l.length c) l :=
  ⟨h.sized, _, _, rfl, hc, fun i x hx => ⟨g, 0, rfl, by rw [Nat.zero_add]; exact h.lies i x hx⟩⟩
theorem HoldI.isFirst {W : World} {g c k : Nat} {l : List (List UInt8)} (h : HoldI W g l) (hk : k ≤ l.length) (hc : k ≤ c) : Is W (.slice (some ⟨g, 0, none⟩) k c) (l.take k) :=
  ⟨fun x hx => h.sized x (List.mem_of_mem_take hx), _, c, by rw [List.length_take, Nat.min_eq_left hk], by rw [List.length_take, Nat.min_eq_left hk]; exact hc, fun i x hx => ⟨g, 0, rfl, by
    rw [Nat.zero_add]
    refine h.lies i x ?_
    rw [List.getElem?_take] at hx
    split at hx
    · exact hx
    · cases hx⟩⟩
theorem HoldI.thereAt {W : World} {g k : Nat} {l : List (List UInt8)} (h : HoldI W g l) (hk : k < l.length) : W.there g (k * 32) 32 := fun j hj => by
  have := h.there (k * 32 + j) (by omega)
  rw [Nat.zero_add] at this
  exact this
theorem HoldI.set {W : World} {g k : Nat} {l : List (List UInt8)} (h : HoldI W g l) (hk : k < l.length) {x : List UInt8} (hx : x.length = 32) : HoldI (W.setCells g (k * 32) (x.map B8)) g (l.set k x) := by
  refine ⟨fun y hy => ?_, fun i y hi => ?_, ?_⟩
  · rcases List.mem_or_eq_of_mem_set hy with h1 | rfl
    · exact h.sized y h1
    · exact hx
  · by_cases hik : i = k
    · subst hik
      rw [List.getElem?_set_self hk] at hi
      cases hi
      exact World.rangeAt_setCells_same W g (i * 32) (x.map B8) (by rw [List.length_map, hx]; exact h.thereAt hk)
    · rw [List.getElem?_set_ne (fun e => hik e.symm)] at hi
      have hy := h.sized y (List.mem_of_getElem? hi)
      exact World.rangeAt_setCells_apart (h.lies i y hi) g (k * 32) (x.map B8) (.inr (by rw [List.length_map, List.length_map, hx, hy]; omega))
  · rw [List.length_set]
    exact World.there_setCells h.there _ _ _
theorem HoldI.below {w w' : World} {g : Nat} {l : List (List UInt8)} (h : HoldI w g l) (hb : Below w.heap.size w w') (hg : g < w.heap.size) : HoldI w' g l := by
  refine ⟨h.sized, fun i x hx => (h.lies i x hx).below hb, fun j hj => ?_⟩
  have h1 := h.there j hj
  have h2 := hb.block g hg
  simp only [World.cell?, World.frozen?, h2] at h1 ⊢
  exact h1
theorem HoldI.drewN {w : World} {g : Nat} {l : List (List UInt8)} (h : HoldI w g l) (q : Nat) : HoldI (w.drewN q) g l := ⟨h.sized, h.lies, h.there⟩
theorem HoldI.drew {w : World} {g : Nat} {l : List (List UInt8)} (h : HoldI w g l) : HoldI w.drew g l := ⟨h.sized, h.lies, h.there⟩
/-- A row of the call's own that is not empty. -/
theorem RowI.hold {W : World} {n : Nat} {v : Value} {l : List (List UInt8)} (h : RowI W n v l) (h0 : 0 < l.length) : ∃ g c, v = .slice (some ⟨g, 0, none⟩) l.length c ∧ l.length ≤ c ∧ n ≤ g ∧ g < W.heap.size ∧ HoldI W g l := by
  have hi := h.is
  rcases h.own.2 with ⟨rfl, h1⟩ | ⟨g, cap, cur, rfl, hb, hg, hn, hm, hs, ht⟩
  · omega
  · refine ⟨g, cap, rfl, hn, hb, (Array.getElem?_eq_some_iff.1 hg).1, h.sized, fun i x hx => ?_, fun j hj => ⟨?_, frozen_of_row W g _ _ _ hg⟩⟩
    · obtain ⟨_, b, off, he, hx'⟩ := hi.at hx
      cases he
      rwa [Nat.zero_add] at hx'
    · have hj' : 0 + j < cur.size := by rw [hs]; have := Nat.mul_le_mul_right 32 hn; omega
      simp [World.cell?, hg] at hj' ⊢
      exact hj'
end Go.Proofs.YtljihmbmjpcfaaaGreat
namespace Go.Proofs.YtljihmbmjpcfaaaGreat
open Go.RowKit Go.Great
set_option maxRecDepth 100000

theorem RowI.made (w : World) : RowI (w.alloc (.cells #[] 25)) w.heap.size (.slice (some ⟨w.heap.size, 0, none⟩) 0 0) [] :=
  ⟨by simp, World.ownsRow_made w #[] 0 (Nat.le_refl _) (by simp [maxLen]) rfl⟩
set_option maxHeartbeats 400000 in
theorem idClone_none (w : World) (c : Nat) : Calls Tryz.prog 76 #[.slice none 0 c] w fun e W' => e = .returned (.slice none 0 0) ∧ w = W' := by
  have he := fun wx => Lib.run_eql_slice_nil (P := Tryz.prog) wx 26 25 none 0 c 0 0 Tryz.underlying26
  go_enter Tryz.func76, Tryz.ntmps76
  go_wp2
  go_ret
  exact ⟨rfl, rfl⟩
set_option maxHeartbeats 400000 in
theorem idClone_some (w : World) (ad : Addr) (c : Nat) (l : List (List UInt8)) (hs : Is w (.slice (some ad) l.length c) l) (hl : l.length ≤ 1000) :
    Calls Tryz.prog 76 #[.slice (some ad) l.length c] w fun e W' => ∃ v', e = .returned v' ∧ RowI W' w.heap.size v' l ∧ Below w.heap.size w W' := by
  have he := fun wx => Lib.run_eql_slice_nil (P := Tryz.prog) wx 26 25 (some ad) l.length c 0 0 Tryz.underlying26
  have hrow := RowI.made w
  have hB : Below w.heap.size w (w.alloc (.cells #[] 25)) := (Below.refl _ w).alloc (Nat.le_refl _) _
  have hs1 := hs.below hB
  go_enter Tryz.func76, Tryz.ntmps76
  go_wp2_with (at_builtin; refine wpList_append_is rfl (.tmp 5) (.tmp 6) rfl w.heap.size _ [] rfl hrow _ l rfl hs1 (by simp; omega) (by simp) ?_; intro v' w1 hown1 hg1 hv1)
  go_ret
  exact ⟨v', rfl, hown1, hB.trans ((Kept.of_grown hg1).below (fun j _ e => (hrow.own.lt j e).1) hB.size)⟩
theorem idClone_any (w : World) (v : Value) (l : List (List UInt8)) (hs : Is w v l) (hl : l.length ≤ 1000) :
    Calls Tryz.prog 76 #[v] w fun e W' => ∃ v', e = .returned v' ∧ RowI W' w.heap.size v' l ∧ Below w.heap.size w W' := by
  obtain ⟨A, c, rfl, hc⟩ := hs.form
  cases A with
  | none =>
    have h0 : l = [] := by
      cases l with
      | nil => rfl
      | cons x l => obtain ⟨_, b, off, he, _⟩ := hs.at (i := 0) (x := x) rfl; cases he
    subst h0
    exact (idClone_none w c).mono fun e W' ⟨he, hw⟩ => ⟨_, he, RowI.nil _ _, hw ▸ Below.refl _ _⟩
  | some ad => exact idClone_some w ad c l hs hl
end Go.Proofs.YtljihmbmjpcfaaaGreat
