/- The iterator over two sets side by side. -/
import Derived.RangeFuncNested
import Derived.RangeFuncBound
import Derived.RangeFuncCalls
import Derived.RangeFuncLeaves
import Derived.RangeFuncBox
import Derived.OwnWalkIn
import Derived.TacticsInMore
import Derived.LoopNIn
import Derived.LoopIn
import Derived.Outline
import Derived.Test.YtcclifnhbncfcaaDotMerge
namespace Go.Proofs.Ytcclifnhbncfcaa
open Go.RowKit Go.Shelf
attribute [local go_sem] Oper.semAt_some

/-- The block of the row that a box holds. -/
def rowOf (Bx : Nat) (A : World) : Option Nat := (A.cell? ⟨Bx, 0, none⟩).bind Value.ownBlock
/-- What a round that appends to the row of box Bx keeps: all cells but that box's and its row's; the row is the same one, or a new one. -/
structure KpR (Bx : Nat) (A B : World) : Prop where
  size : A.heap.size ≤ B.heap.size
  same : ∀ j o, A.heap[j]? = some o → o.isCells = true → j ≠ Bx → rowOf Bx A ≠ some j → B.heap[j]? = some o
  row : rowOf Bx B = rowOf Bx A ∨ ∀ j, rowOf Bx B = some j → A.heap.size ≤ j
  lt : (∀ j, rowOf Bx A = some j → j < A.heap.size) → ∀ j, rowOf Bx B = some j → j < B.heap.size
theorem KpR.trans {Bx : Nat} {A B C : World} (h : KpR Bx A B) (k : KpR Bx B C) : KpR Bx A C := by
  refine ⟨Nat.le_trans h.size k.size, fun j o hj ho hne hr => k.same j o (h.same j o hj ho hne hr) ho hne ?_, ?_, fun hl => k.lt (h.lt hl)⟩
  · have hlt : j < A.heap.size := (Array.getElem?_eq_some_iff.1 hj).1
    rcases h.row with e | e
    · rw [e]; exact hr
    · intro e2; have := e j e2; omega
  · rcases k.row with e | e
    · rw [e]; exact h.row
    · exact .inr fun j hj => Nat.le_trans h.size (e j hj)
theorem rowOf_below {Bx : Nat} {A B : World} (h : Below A.heap.size A B) (hx : Bx < A.heap.size) : rowOf Bx B = rowOf Bx A := by
  unfold rowOf
  rw [h.cell (p := ⟨Bx, 0, none⟩) hx]
theorem KpR.below {Bx : Nat} {A B : World} (h : Below A.heap.size A B) (hx : Bx < A.heap.size) : KpR Bx A B :=
  ⟨h.size, fun j o hj _ _ _ => (h.block j (Array.getElem?_eq_some_iff.1 hj).1).trans hj, .inl (rowOf_below h hx), fun hl j hj => by rw [rowOf_below h hx] at hj; exact Nat.lt_of_lt_of_le (hl j hj) h.size⟩
theorem KpR.putObj {Bx : Nat} {W : World} {l : Nat} {o o' : Obj} (hl : W.heap[l]? = some o) (ho : o.isCells = false) (hx : Bx < l) : KpR Bx W (W.putObj l o') := by
  have hr : rowOf Bx (W.putObj l o') = rowOf Bx W := by
    unfold rowOf
    rw [World.cell?_of_block (w := W) (w' := W.putObj l o') (a := ⟨Bx, 0, none⟩) (World.putObj_heap_other (show Bx ≠ l by omega))]
  have hsz : (W.putObj l o').heap.size = W.heap.size := by simp [World.putObj]
  refine ⟨by omega, fun j u hj hu _ _ => (World.putObj_heap_other (fun e => ?_)).trans hj, .inl hr, fun h j hj => by rw [hr] at hj; rw [hsz]; exact h j hj⟩
  subst e
  rw [hl] at hj
  cases hj
  rw [ho] at hu
  cases hu
/-- A list in memory that a round does not reach. -/
structure FarD (Bx : Nat) (W : World) (v : Value) (l : List X2) : Prop where
  is : Ds W v l
  far : l ≠ [] → ∀ j, v.ownBlock = some j → j < W.heap.size ∧ j ≠ Bx ∧ rowOf Bx W ≠ some j ∧ ∃ o, W.heap[j]? = some o ∧ o.isCells = true
def lenOf : Value → Nat
  | .slice _ n _ => n
  | _ => 0
theorem lenOf_slice (A : Option Addr) (n c : Nat) : lenOf (.slice A n c) = n := rfl
theorem cells_of_cell {W : World} {p : Addr} {v : Value} (h : W.cell? p = some v) : ∃ o, W.heap[p.block]? = some o ∧ o.isCells = true := by
  unfold World.cell? at h
  split at h
  · next c t f hc => exact ⟨_, hc, rfl⟩
  · cases h
theorem FarD.kept {Bx : Nat} {A B : World} {v : Value} {l : List X2} (h : FarD Bx A v l) (k : KpR Bx A B) : FarD Bx B v l := by
  by_cases hne : l = []
  · subst hne
    obtain ⟨A', c, rfl, _⟩ := h.is.form
    exact ⟨Es.empty _ _ _, fun h => absurd rfl h⟩
  have hb : ∀ j, v.ownBlock = some j → B.heap[j]? = A.heap[j]? := fun j hj => by
    obtain ⟨h1, h2, h3, o, h4, h5⟩ := h.far hne j hj
    rw [h4]
    exact k.same j o h4 h5 h2 h3
  refine ⟨?_, fun _ j hj => ?_⟩
  · obtain ⟨Ad, c, rfl, hc, h2⟩ := h.is
    refine ⟨Ad, c, rfl, hc, fun i x hx => ?_⟩
    obtain ⟨b, off, rfl, h3⟩ := h2 i x hx
    exact ⟨b, off, rfl, fun r u hu => (World.cell?_of_block (hb b rfl)).trans (h3 r u hu)⟩
  · obtain ⟨h1, h2, h3, o, h4, h5⟩ := h.far hne j hj
    refine ⟨Nat.lt_of_lt_of_le h1 k.size, h2, ?_, o, by rw [hb j hj]; exact h4, h5⟩
    rcases k.row with e | e
    · rw [e]; exact h3
    · intro e2; have := e j e2; omega
theorem FarD.tail {Bx : Nat} {W : World} {A : Option Addr} {n c : Nat} {l : List X2} (h : FarD Bx W (.slice A n c) l) (hl : 1 ≤ l.length) : FarD Bx W (.slice (if c = 1 then A else A.map (·.add 2)) (n - 1) (c - 1)) l.tail := by
  have h1 := h.is.drop (k := 1) hl
  rw [List.drop_one] at h1
  refine ⟨h1, fun hne j hj => h.far (fun e => hne (by rw [e]; rfl)) j ?_⟩
  rw [← hj]
  cases A with
  | none => split <;> rfl
  | some a =>
    split
    · rfl
    · show some a.block = some (a.add 2).block
      rw [add_block]
theorem first_mem {l m : List X2} {d : X2} (h : firstOf l m = some d) : l.head? = some d ∨ m.head? = some d := by
  cases l with
  | nil => exact .inr h
  | cons a l =>
    cases m with
    | nil => exact .inl h
    | cons b m =>
      replace h : (if cmpX a b < 0 then some a else some b) = some d := h
      by_cases hc : cmpX a b < 0
      · rw [if_pos hc] at h; exact .inl h
      · rw [if_neg hc] at h; exact .inr h
theorem head_len {l : List X2} {d : X2} (h : l.head? = some d) : 1 ≤ l.length := by
  cases l with
  | nil => cases h
  | cons a l => simp
def encP (x : X2 × Bool) : Array Value := #[eDot.val x.1, .bool x.2]

set_option maxRecDepth 100000 in
set_option maxHeartbeats 2000000 in
theorem side1_in (n : Nat) (hn : 2 ≤ n) (lp Bx B1 B2 : Nat) (l m : List X2) (v v' : Value) (hl : l.length ≤ 1000) (hm : m.length ≤ 1000) (J Jx : List (X2 × Bool) → World → Prop)
    (hJ : ∀ s A B, J s A → Below A.heap.size A B → J s B)
    (hY : ∀ pre x W1, J pre W1 → pre.length < (mergeX l m).length → YieldAt Fence.wide (n - 1) Try.prog lp (encP x) W1 fun e W' =>
      (e = .returned (.bool true) ∧ J (pre ++ [x]) W' ∧ KpR Bx W1 W') ∨ (e = .returned (.bool false) ∧ Jx (pre ++ [x]) W'))
    (W : World) (hB1 : W.cell? ⟨B1, 0, none⟩ = some v) (hB2 : W.cell? ⟨B2, 0, none⟩ = some v') (hd : FarD Bx W v l) (hd' : FarD Bx W v' m) (hx : Bx < W.heap.size) (hr : ∀ j, rowOf Bx W = some j → j < W.heap.size) (h0 : J [] W) :
    CallsIn Fence.wide n Try.prog 73 #[.func (.yield lp) #[] #[], .pointer (some ⟨B1, 0, none⟩), .pointer (some ⟨B2, 0, none⟩)] W fun e W' => (∃ v, e = .returned v) ∧
      ((∃ ys, ys = mergeX l m ∧ J ys W') ∨ (∃ pre, True ∧ Jx pre W')) := by
  refine callsIn_of_wp Try.func73 rfl trivial ?_ rfl
  simp only [Try.ntmps73, List.size_toArray, List.length_cons, List.length_nil, Nat.reduceAdd, Nat.reduceSub, Array.replicate_succ, Array.replicate_zero, List.push_toArray, List.append_toArray, List.nil_append, List.cons_append]
  obtain ⟨A, c, rfl, _⟩ := hd.is.form
  obtain ⟨A', c', rfl, _⟩ := hd'.is.form
  gi_wp2
  refine wpIn_wide_held (fun W1 => W1 = W.drew) (by kernel_rfl) ?_
  refine wpAnyH_next (i := 0) (v := .slice A l.length c) rfl (by kernel_rfl) (by kernel_rfl) (by kernel_rfl) (fun _ _ _ h => h) (by kernel_rfl) (fun W1 hW1 => by subst hW1; go_simp; done) rfl (fun a' ha' => ?_)
  simp only [Act.put, List.getElem_toArray, List.getElem_cons_succ, List.getElem_cons_zero, List.setIfInBounds_toArray, List.set_cons_succ, List.set_cons_zero] at ha'
  subst ha'
  refine wpAnyH_next (i := 1) (v := .slice A' m.length c') rfl (by kernel_rfl) (by kernel_rfl) (by kernel_rfl) (fun _ _ _ h => h) (by kernel_rfl) (fun W1 hW1 => by subst hW1; go_simp; done) rfl (fun a' ha' => ?_)
  simp only [Act.put, List.getElem_toArray, List.getElem_cons_succ, List.getElem_cons_zero, List.setIfInBounds_toArray, List.set_cons_succ, List.set_cons_zero] at ha'
  subst ha'
  refine wpAnyH_next (i := 2) (v := .slice A l.length c) rfl (by kernel_rfl) (by kernel_rfl) (by kernel_rfl) (fun _ _ _ h => h) (by kernel_rfl) (fun W1 hW1 => by go_simp; done) rfl (fun a' ha' => ?_)
  simp only [Act.put, List.getElem_toArray, List.getElem_cons_succ, List.getElem_cons_zero, List.setIfInBounds_toArray, List.set_cons_succ, List.set_cons_zero] at ha'
  subst ha'
  refine wpAnyH_next (i := 3) (v := .slice A' m.length c') rfl (by kernel_rfl) (by kernel_rfl) (by kernel_rfl) (fun _ _ _ h => h) (by kernel_rfl) (fun W1 hW1 => by go_simp; done) rfl (fun a' ha' => ?_)
  simp only [Act.put, List.getElem_toArray, List.getElem_cons_succ, List.getElem_cons_zero, List.setIfInBounds_toArray, List.set_cons_succ, List.set_cons_zero] at ha'
  subst ha'
  refine wpAnyH_fin (by kernel_rfl) ?_ _
  have hbd : Below W.heap.size W W.drew := (Below.refl _ W).drew
  have hk0 := KpR.below hbd hx
  have hd1 := hd.kept hk0
  have hd1' := hd'.kept hk0
  have hJ0 := hJ _ _ _ h0 hbd
  have hx1 : Bx < W.drew.heap.size := hx
  have hr1 := hk0.lt hr
  clear hd hd' h0 hB1 hB2 hr hx hk0 hbd
  generalize W.drew = Wd at *
  gi_wp2
  gi_loopw [4, 5] (fun a b wr => ∃ (l' m' : List X2) (pre : List (X2 × Bool)), FarD Bx wr a l' ∧ FarD Bx wr b m' ∧ l'.length ≤ 1000 ∧ m'.length ≤ 1000 ∧ mergeX l m = pre ++ mergeX l' m' ∧ Bx < wr.heap.size ∧ (∀ j, rowOf Bx wr = some j → j < wr.heap.size) ∧ J pre wr) (fun a b _ => lenOf a + lenOf b)
  case atStart => exact ⟨l, m, [], hd1, hd1', hl, hm, rfl, hx1, hr1, hJ0⟩
  case round =>
    clear hd1 hd1' hx1 hr1 hJ0
    obtain ⟨l', m', pre, hf, hf', hl', hm', hmg, hx, hr, hJp⟩ := hrel
    obtain ⟨A1, c1, rfl, hc1⟩ := hf.is.form
    obtain ⟨A2, c2, rfl, hc2⟩ := hf'.is.form
    have HM := Lib.hid hmg
    clear hmg
    by_cases he : 0 < l'.length ∨ 0 < m'.length
    case neg =>
      obtain rfl : l' = [] := List.eq_nil_of_length_eq_zero (by omega)
      obtain rfl : m' = [] := List.eq_nil_of_length_eq_zero (by omega)
      gi_wp2
      go_end0
      exact ⟨⟨_, rfl⟩, .inl ⟨_, rfl, by rw [HM.out, merge_nil_l]; simpa using hJp⟩⟩
    case pos =>
      obtain ⟨⟨s, t⟩, hfd⟩ := first_some he
      have HS := Lib.hid (merge_step hfd)
      have HF := Lib.hid (first_mem hfd)
      have CF : Calls Try.prog 74 #[.slice A1 l'.length c1, .slice A2 m'.length c2] wr fun e W' => e = .returned (DotV s t) ∧ Below wr.heap.size wr W' := pDFirst_any wr _ _ l' m' (s, t) hf.is hf'.is hl' hm' hfd
      have hpl : pre.length < (mergeX l m).length := by rw [HM.out, HS.out]; simp
      clear hfd
      by_cases hln : 0 < l'.length
      case pos =>
        clear he
        gi_wp2
        refine ⟨trivial, fun _ => by omega, (callsIn_wide.2 CF).mono ?_⟩
        rintro e w1 ⟨rfl, hb1⟩
        have hb2 : Below w1.heap.size w1 (w1.alloc (.cells #[.int .i64 s, .int .i64 t] 38)) := (Below.refl _ w1).alloc (Nat.le_refl _) _
        have hb12 := hb1.trans (hb2.mono hb1.size)
        have k1 : (w1.alloc (.cells #[.int .i64 s, .int .i64 t] 38)).cell? ⟨w1.heap.size, 0, none⟩ = some (.int .i64 s) := by go_simp
        have k2 : (w1.alloc (.cells #[.int .i64 s, .int .i64 t] 38)).cell? ⟨w1.heap.size, 1, none⟩ = some (.int .i64 t) := by go_simp
        have hsz : wr.heap.size ≤ w1.heap.size := hb1.size
        have hf2 := hf.kept (KpR.below hb12 hx)
        have hf2' := hf'.kept (KpR.below hb12 hx)
        have hx2 : Bx < (w1.alloc (.cells #[.int .i64 s, .int .i64 t] 38)).heap.size := Nat.lt_of_lt_of_le hx hb12.size
        have hrw : ∀ j, rowOf Bx (w1.alloc (.cells #[.int .i64 s, .int .i64 t] 38)) = some j → j < w1.heap.size := fun j hj => by
          rw [rowOf_below hb12 hx] at hj
          have := hr j hj
          omega
        have hJ2 := hJ _ _ _ hJp hb12
        have hxw : Bx < w1.heap.size := by omega
        clear hb1 hb2 CF hf hf' hJp hr hb12
        have CB : Calls Try.prog 75 #[.slice A2 m'.length c2, DotV s t] (w1.alloc (.cells #[.int .i64 s, .int .i64 t] 38)) fun e W' => e = .returned (.bool (decide (m'.head? = some (s, t)))) ∧ Below (w1.alloc (.cells #[.int .i64 s, .int .i64 t] 38)).heap.size (w1.alloc (.cells #[.int .i64 s, .int .i64 t] 38)) W' := pDBegins_any _ _ m' (s, t) hf2'.is hm'
        gi_wp2
        generalize hw2 : w1.alloc (.cells #[.int .i64 s, .int .i64 t] 38) = w2 at *
        generalize hbd : w1.heap.size = bd at *
        clear hw2 hbd
        refine ⟨trivial, fun _ => by omega, (callsIn_wide.2 CB).mono ?_⟩
        rintro e w3 ⟨rfl, hb3⟩
        have hJ3 := hJ _ _ _ hJ2 hb3
        have hf3 := hf2.kept (KpR.below hb3 hx2)
        have hf3' := hf2'.kept (KpR.below hb3 hx2)
        have q1 := cell_on hb3 k1
        have q2 := cell_on hb3 k2
        have hx3 : Bx < w3.heap.size := Nat.lt_of_lt_of_le hx2 hb3.size
        have hr3 : ∀ j, rowOf Bx w3 = some j → j < bd := fun j hj => by
          rw [rowOf_below hb3 hx2] at hj
          exact hrw j hj
        have hbd3 : bd < w3.heap.size := World.block_lt_of_cell? _ _ q1
        obtain ⟨fn, tmps, assign, body, hy, hR⟩ := hY pre ((s, t), decide (m'.head? = some (s, t))) w3 hJ3 hpl
        have hy' : (Instr.yield lp #[DotV s t, .bool (decide (m'.head? = some (s, t)))]).run Try.prog w3 = .ok (.round lp fn tmps assign body) w3 := hy
        clear hJ2 hJ3 hf2 hf2' CB hy k1 k2 hx2 hrw hb3
        obtain ⟨b2, hb2⟩ : ∃ b2, b2 = decide (m'.head? = some (s, t)) := ⟨_, rfl⟩
        rw [← hb2] at hy' hR ⊢
        have HB2 := Lib.hid hb2
        clear hb2
        gi_wp2
        refine ⟨fun _ => by omega, hR.mono ?_⟩
        rintro e w4 (⟨rfl, hJ4, hk4⟩ | ⟨rfl, hJx4⟩)
        case inr =>
          gi_wp2
          refine bodyPost_ret (results_none rfl _ _ _) rfl ?_
          exact ⟨⟨_, rfl⟩, .inr ⟨_, trivial, hJx4⟩⟩
        case inl =>
          have hcell : ∀ (o : Nat) (u : Value), w3.cell? ⟨bd, o, none⟩ = some u → w4.cell? ⟨bd, o, none⟩ = some u := fun o u hu => by
            obtain ⟨ob, ho, hoc⟩ := cells_of_cell hu
            have h4 := hk4.same bd ob ho hoc (by omega) (fun e => by have := hr3 bd e; omega)
            rw [World.cell?_of_block (w := w3) (w' := w4) (a := ⟨bd, o, none⟩) (h4.trans ho.symm)]
            exact hu
          have p1 := hcell _ _ q1
          have p2 := hcell _ _ q2
          have hf4 := hf3.kept hk4
          have hf4' := hf3'.kept hk4
          have hx4 : Bx < w4.heap.size := Nat.lt_of_lt_of_le hx3 hk4.size
          have hr4 := hk4.lt (fun j hj => by have := hr3 j hj; omega)
          have CB1 : Calls Try.prog 75 #[.slice A1 l'.length c1, DotV s t] w4 fun e W' => e = .returned (.bool (decide (l'.head? = some (s, t)))) ∧ Below w4.heap.size w4 W' := pDBegins_any _ _ l' (s, t) hf4.is (by first | exact hl' | simp)
          clear hcell hk4 hf3 hf3' hR hy' q1 q2 hr3
          gi_wp2
          refine ⟨trivial, fun _ => by omega, (callsIn_wide.2 CB1).mono ?_⟩
          rintro e w5 ⟨rfl, hb5⟩
          have hk5 := KpR.below hb5 hx4
          have hJ5 := hJ _ _ _ hJ4 hb5
          have hf5 := hf4.kept hk5
          have hf5' := hf4'.kept hk5
          have hx5 : Bx < w5.heap.size := Nat.lt_of_lt_of_le hx4 hb5.size
          have hr5 := hk5.lt hr4
          clear hf4 hf4' hx4 hr4 hk5 hJ4 CB1 hb5 p1 p2
          by_cases h1 : l'.head? = some (s, t)
          · by_cases h2 : m'.head? = some (s, t)
            · skip
              obtain rfl := (HB2.out.trans (decide_eq_true h2))
              rw [decide_eq_true h1]
              have n1 := head_len h1
              have hf6 := hf5.tail n1
              have n1' : (1 : Int) ≤ (l'.length : Int) := by omega
              have n2 := head_len h2
              have hf6' := hf5'.tail n2
              have n2' : (1 : Int) ≤ (m'.length : Int) := by omega
              have HE := Lib.hid (show mergeX l m = (pre ++ [((s, t), true)]) ++ mergeX l'.tail m'.tail by
                rw [HM.out, HS.out]
                simp [h2, h1])
              clear HM HS HF HB2
              gi_wp2
              go_roundw
              case rel => exact ⟨l'.tail, m'.tail, _, hf6, hf6', by simp; omega, by simp; omega, HE.out, hx5, hr5, hJ5⟩
              case measure => simp [lenOf]; try omega
            · skip
              obtain rfl := (HB2.out.trans (decide_eq_false h2))
              rw [decide_eq_true h1]
              have n1 := head_len h1
              have hf6 := hf5.tail n1
              have n1' : (1 : Int) ≤ (l'.length : Int) := by omega
              have HE := Lib.hid (show mergeX l m = (pre ++ [((s, t), false)]) ++ mergeX l'.tail m' by
                rw [HM.out, HS.out]
                simp [h2, h1])
              clear HM HS HF HB2
              gi_wp2
              go_roundw
              case rel => exact ⟨l'.tail, m', _, hf6, hf5', by simp; omega, hm', HE.out, hx5, hr5, hJ5⟩
              case measure => simp [lenOf]; try omega
          · have h2 : m'.head? = some (s, t) := HF.out.resolve_left h1
            obtain rfl := (HB2.out.trans (decide_eq_true h2))
            rw [decide_eq_false h1]
            have n2 := head_len h2
            have hf6' := hf5'.tail n2
            have n2' : (1 : Int) ≤ (m'.length : Int) := by omega
            have HE := Lib.hid (show mergeX l m = (pre ++ [((s, t), true)]) ++ mergeX l' m'.tail by
              rw [HM.out, HS.out]
              simp [h2, h1])
            clear HM HS HF HB2
            gi_wp2
            go_roundw
            case rel => exact ⟨l', m'.tail, _, hf5, hf6', by first | exact hl' | simp, by simp; omega, HE.out, hx5, hr5, hJ5⟩
            case measure => simp [lenOf]; try omega
      case neg =>
        obtain rfl : l' = [] := List.eq_nil_of_length_eq_zero (by omega)
        have hmn : 0 < m'.length := by simpa using he
        clear he hln hl'
        replace CF : Calls Try.prog 74 #[.slice A1 0 c1, .slice A2 m'.length c2] wr fun e W' => e = .returned (DotV s t) ∧ Below wr.heap.size wr W' := CF
        gi_wp2
        refine ⟨trivial, fun _ => by omega, (callsIn_wide.2 CF).mono ?_⟩
        rintro e w1 ⟨rfl, hb1⟩
        have hb2 : Below w1.heap.size w1 (w1.alloc (.cells #[.int .i64 s, .int .i64 t] 38)) := (Below.refl _ w1).alloc (Nat.le_refl _) _
        have hb12 := hb1.trans (hb2.mono hb1.size)
        have k1 : (w1.alloc (.cells #[.int .i64 s, .int .i64 t] 38)).cell? ⟨w1.heap.size, 0, none⟩ = some (.int .i64 s) := by go_simp
        have k2 : (w1.alloc (.cells #[.int .i64 s, .int .i64 t] 38)).cell? ⟨w1.heap.size, 1, none⟩ = some (.int .i64 t) := by go_simp
        have hsz : wr.heap.size ≤ w1.heap.size := hb1.size
        have hf2 := hf.kept (KpR.below hb12 hx)
        have hf2' := hf'.kept (KpR.below hb12 hx)
        have hx2 : Bx < (w1.alloc (.cells #[.int .i64 s, .int .i64 t] 38)).heap.size := Nat.lt_of_lt_of_le hx hb12.size
        have hrw : ∀ j, rowOf Bx (w1.alloc (.cells #[.int .i64 s, .int .i64 t] 38)) = some j → j < w1.heap.size := fun j hj => by
          rw [rowOf_below hb12 hx] at hj
          have := hr j hj
          omega
        have hJ2 := hJ _ _ _ hJp hb12
        have hxw : Bx < w1.heap.size := by omega
        clear hb1 hb2 CF hf hf' hJp hr hb12
        have CB : Calls Try.prog 75 #[.slice A2 m'.length c2, DotV s t] (w1.alloc (.cells #[.int .i64 s, .int .i64 t] 38)) fun e W' => e = .returned (.bool (decide (m'.head? = some (s, t)))) ∧ Below (w1.alloc (.cells #[.int .i64 s, .int .i64 t] 38)).heap.size (w1.alloc (.cells #[.int .i64 s, .int .i64 t] 38)) W' := pDBegins_any _ _ m' (s, t) hf2'.is hm'
        gi_wp2
        generalize hw2 : w1.alloc (.cells #[.int .i64 s, .int .i64 t] 38) = w2 at *
        generalize hbd : w1.heap.size = bd at *
        clear hw2 hbd
        refine ⟨trivial, fun _ => by omega, (callsIn_wide.2 CB).mono ?_⟩
        rintro e w3 ⟨rfl, hb3⟩
        have hJ3 := hJ _ _ _ hJ2 hb3
        have hf3 := hf2.kept (KpR.below hb3 hx2)
        have hf3' := hf2'.kept (KpR.below hb3 hx2)
        have q1 := cell_on hb3 k1
        have q2 := cell_on hb3 k2
        have hx3 : Bx < w3.heap.size := Nat.lt_of_lt_of_le hx2 hb3.size
        have hr3 : ∀ j, rowOf Bx w3 = some j → j < bd := fun j hj => by
          rw [rowOf_below hb3 hx2] at hj
          exact hrw j hj
        have hbd3 : bd < w3.heap.size := World.block_lt_of_cell? _ _ q1
        obtain ⟨fn, tmps, assign, body, hy, hR⟩ := hY pre ((s, t), decide (m'.head? = some (s, t))) w3 hJ3 hpl
        have hy' : (Instr.yield lp #[DotV s t, .bool (decide (m'.head? = some (s, t)))]).run Try.prog w3 = .ok (.round lp fn tmps assign body) w3 := hy
        clear hJ2 hJ3 hf2 hf2' CB hy k1 k2 hx2 hrw hb3
        obtain ⟨b2, hb2⟩ : ∃ b2, b2 = decide (m'.head? = some (s, t)) := ⟨_, rfl⟩
        rw [← hb2] at hy' hR ⊢
        have HB2 := Lib.hid hb2
        clear hb2
        gi_wp2
        refine ⟨fun _ => by omega, hR.mono ?_⟩
        rintro e w4 (⟨rfl, hJ4, hk4⟩ | ⟨rfl, hJx4⟩)
        case inr =>
          gi_wp2
          refine bodyPost_ret (results_none rfl _ _ _) rfl ?_
          exact ⟨⟨_, rfl⟩, .inr ⟨_, trivial, hJx4⟩⟩
        case inl =>
          have hcell : ∀ (o : Nat) (u : Value), w3.cell? ⟨bd, o, none⟩ = some u → w4.cell? ⟨bd, o, none⟩ = some u := fun o u hu => by
            obtain ⟨ob, ho, hoc⟩ := cells_of_cell hu
            have h4 := hk4.same bd ob ho hoc (by omega) (fun e => by have := hr3 bd e; omega)
            rw [World.cell?_of_block (w := w3) (w' := w4) (a := ⟨bd, o, none⟩) (h4.trans ho.symm)]
            exact hu
          have p1 := hcell _ _ q1
          have p2 := hcell _ _ q2
          have hf4 := hf3.kept hk4
          have hf4' := hf3'.kept hk4
          have hx4 : Bx < w4.heap.size := Nat.lt_of_lt_of_le hx3 hk4.size
          have hr4 := hk4.lt (fun j hj => by have := hr3 j hj; omega)
          have CB1 : Calls Try.prog 75 #[.slice A1 0 c1, DotV s t] w4 fun e W' => e = .returned (.bool (decide (([] : List X2).head? = some (s, t)))) ∧ Below w4.heap.size w4 W' := pDBegins_any _ _ ([] : List X2) (s, t) hf4.is (by first | exact hl' | simp)
          clear hcell hk4 hf3 hf3' hR hy' q1 q2 hr3
          gi_wp2
          refine ⟨trivial, fun _ => by omega, (callsIn_wide.2 CB1).mono ?_⟩
          rintro e w5 ⟨rfl, hb5⟩
          have hk5 := KpR.below hb5 hx4
          have hJ5 := hJ _ _ _ hJ4 hb5
          have hf5 := hf4.kept hk5
          have hf5' := hf4'.kept hk5
          have hx5 : Bx < w5.heap.size := Nat.lt_of_lt_of_le hx4 hb5.size
          have hr5 := hk5.lt hr4
          clear hf4 hf4' hx4 hr4 hk5 hJ4 CB1 hb5 p1 p2
          have h2 : m'.head? = some (s, t) := HF.out.resolve_left (fun h => by cases h)
          obtain rfl := (HB2.out.trans (decide_eq_true h2))
          have n2 := head_len h2
          have hf6' := hf5'.tail n2
          have n2' : (1 : Int) ≤ (m'.length : Int) := by omega
          have HE := Lib.hid (show mergeX l m = (pre ++ [((s, t), true)]) ++ mergeX ([] : List X2) m'.tail by
            rw [HM.out, HS.out]
            simp [h2])
          clear HM HS HF HB2
          gi_wp2
          go_roundw
          case rel => exact ⟨([] : List X2), m'.tail, _, hf5, hf6', by first | exact hl' | simp, by simp; omega, HE.out, hx5, hr5, hJ5⟩
          case measure => simp [lenOf]; try omega
end Go.Proofs.Ytcclifnhbncfcaa
