/- The iterator that tells the rules. -/
import Derived.RangeFuncNested
import Derived.RangeFuncBound
import Derived.RangeFuncCalls
import Derived.RangeFuncLeaves
import Derived.RangeFuncBox
import Derived.Shelf.Abstract
import Derived.Shelf.RegionOpen
import Derived.WalkKit
import Derived.OwnWalkIn
import Derived.TacticsInMore
import Derived.LoopNIn
import Derived.LoopIn
import Derived.Maps.AppendAt
import Derived.Outline
import Derived.Laws.EntriesVeiled
import Derived.Test.YtldgnkngjdgiaaaDoorRefnByte
namespace Go.Proofs.YtldgnkngjdgiaaaDoor
open Go.RowKit Go.Shelf
attribute [local go_sem] Oper.semAt_some

/-- The functions of the rules, in their order. -/
def ruleF (x : Fin 8) : Nat := [50, 51, 52, 53, 54, 55, 56, 57].getD x.1 0
/-- What the cells from a place on hold stays. -/
def KpC (n₀ : Nat) (W W' : World) : Prop := ∀ p v, n₀ ≤ p.block → W.cell? p = some v → W'.cell? p = some v
theorem KpC.refl (n₀ : Nat) (W : World) : KpC n₀ W W := fun _ _ _ h => h
theorem KpC.trans {n₀ : Nat} {A B C : World} (h1 : KpC n₀ A B) (h2 : KpC n₀ B C) : KpC n₀ A C := fun p v hp h => h2 p v hp (h1 p v hp h)
theorem KpC.below {n₀ : Nat} {A B : World} (h : Below A.heap.size A B) : KpC n₀ A B := fun p _ _ hc => (h.cell (p := p) (World.block_lt_of_cell? _ _ hc)).trans hc
def Tells (g : Nat) (W : World) : Prop := ∀ x : Fin 8, W.cell? ⟨g, x.1, none⟩ = some (.func (.func (ruleF x)) #[] #[])
theorem Tells.kept {g n₀ : Nat} {W W' : World} (h : Tells g W) (hk : KpC n₀ W W') (hg : n₀ ≤ g) : Tells g W' := fun x => hk _ _ hg (h x)
def eight : List (Fin 8) := [0, 1, 2, 3, 4, 5, 6, 7]
theorem eight_take {k : Nat} (hk : k < 8) : eight.take (k + 1) = eight.take k ++ [⟨k, hk⟩] := by
  have key : ∀ x : Fin 8, eight.take (x.1 + 1) = eight.take x.1 ++ [x] := by decide
  exact key ⟨k, hk⟩

set_option maxRecDepth 100000 in
set_option maxHeartbeats 1000000 in
theorem rules1_in (F : Fence) (n : Nat) (h6 : F.fn 49) (hro : F.round = none) (hn : 1 ≤ n) (l n₀ : Nat) (J Jx : List (Fin 8) → World → Prop)
    (hY : ∀ pre x W, J pre W → pre.length < 8 → YieldAt F (n - 1) Tryd.prog l #[.int .i64 (1 + (x.1 : Int)), .agg #[.func (.func (ruleF x)) #[] #[]]] W fun e W' =>
      (e = .returned (.bool true) ∧ J (pre ++ [x]) W' ∧ KpC n₀ W W') ∨ (e = .returned (.bool false) ∧ Jx (pre ++ [x]) W'))
    (W : World) (hW : n₀ ≤ W.heap.size) (hJa : ∀ pre (A : World) o, J pre A → J pre (A.alloc o)) (h0 : J [] W) :
    CallsIn F n Tryd.prog 49 #[.func (.yield l) #[] #[]] W fun e W' => (∃ v, e = .returned v) ∧
      ((∃ ys, ys = eight ∧ J ys W') ∨ (∃ pre, (∃ k, k < 8 ∧ pre = eight.take (k + 1)) ∧ Jx pre W')) := by
  refine callsIn_of_wp Tryd.func49 rfl h6 ?_ hro
  simp only [Tryd.ntmps49, List.size_toArray, List.length_cons, List.length_nil, Nat.reduceAdd, Nat.reduceSub, Array.replicate_succ, Array.replicate_zero, List.push_toArray, List.append_toArray, List.nil_append, List.cons_append]
  gi_wp2
  have hT : Tells W.heap.size (W.alloc (.cells #[.func (.func 50) #[] #[], .func (.func 51) #[] #[], .func (.func 52) #[] #[], .func (.func 53) #[] #[], .func (.func 54) #[] #[], .func (.func 55) #[] #[], .func (.func 56) #[] #[], .func (.func 57) #[] #[]] 52)) := by
    intro x
    simp only [World.cell?, World.alloc_heap_new]
    match x with
    | 0 => rfl
    | 1 => rfl
    | 2 => rfl
    | 3 => rfl
    | 4 => rfl
    | 5 => rfl
    | 6 => rfl
    | 7 => rfl
  have hJ0 := hJa [] W (.cells #[.func (.func 50) #[] #[], .func (.func 51) #[] #[], .func (.func 52) #[] #[], .func (.func 53) #[] #[], .func (.func 54) #[] #[], .func (.func 55) #[] #[], .func (.func 56) #[] #[], .func (.func 57) #[] #[]] 52) h0
  have hsz1 : W.heap.size < (W.alloc (.cells #[.func (.func 50) #[] #[], .func (.func 51) #[] #[], .func (.func 52) #[] #[], .func (.func 53) #[] #[], .func (.func 54) #[] #[], .func (.func 55) #[] #[], .func (.func 56) #[] #[], .func (.func 57) #[] #[]] 52)).heap.size := by simp
  generalize (W.alloc (.cells #[.func (.func 50) #[] #[], .func (.func 51) #[] #[], .func (.func 52) #[] #[], .func (.func 53) #[] #[], .func (.func 54) #[] #[], .func (.func 55) #[] #[], .func (.func 56) #[] #[], .func (.func 57) #[] #[]] 52)) = W1 at *
  clear h0
  gi_loopw [14] (fun p wr => ∃ k : Nat, k ≤ 8 ∧ p = .int .i64 k ∧ J (eight.take k) wr ∧ Tells W.heap.size wr)
    (fun p _ => 8 - (intOf p).toNat)
  case atStart => exact ⟨0, by omega, rfl, hJ0, hT⟩
  case round =>
    clear hJ0 hT hsz1
    obtain ⟨k, hk, rfl, hJ, hT⟩ := hrel
    by_cases hlt : k < 8
    · have hc := hT ⟨k, hlt⟩
      have hlt' : (k : Int) < 8 := by omega
      have hJ2 := hJa _ _ (.cells #[.func (.func (ruleF ⟨k, hlt⟩)) #[] #[]] 52) hJ
      have hT2 : Tells W.heap.size (wr.alloc (.cells #[.func (.func (ruleF ⟨k, hlt⟩)) #[] #[]] 52)) := hT.kept (KpC.below (n₀ := 0) ((Below.refl _ wr).alloc (Nat.le_refl _) _)) (Nat.zero_le _)
      obtain ⟨fn, tmps, assign, body, hy, hR⟩ := hY _ ⟨k, hlt⟩ _ hJ2 (by simp [eight]; omega)
      have HT := Lib.hid hT2
      clear hT hT2 hJ hJ2
      simp only at hc
      gi_wp2
      refine hR.mono ?_
      rintro e W3 (⟨rfl, hJ3, hK3⟩ | ⟨rfl, hJx3⟩)
      · rw [← eight_take hlt] at hJ3
        have HT3 := Lib.hid (HT.out.kept hK3 hW)
        clear HT hK3
        gi_wp2
        go_roundw
        case rel => exact ⟨k + 1, by omega, by go_num, hJ3, HT3.out⟩
        case measure => simp [intOf]; omega
      · rw [← eight_take hlt] at hJx3
        gi_wp2
        refine bodyPost_ret (results_none rfl _ _ _) rfl ?_
        exact ⟨⟨_, rfl⟩, .inr ⟨_, ⟨k, hlt, rfl⟩, hJx3⟩⟩
    · obtain rfl : k = 8 := by omega
      gi_wp2
      go_end0
      exact ⟨⟨_, rfl⟩, .inl ⟨_, rfl, hJ⟩⟩

theorem rules_stops (F : Fence) (n : Nat) (h6 : F.fn 49) (hro : F.round = none) (hn : 1 ≤ n) (w : World) :
    SeqStopsK F n Tryd.prog 49 #[] (fun x : Fin 8 => #[.int .i64 (1 + (x.1 : Int)), .agg #[.func (.func (ruleF x)) #[] #[]]]) (KpC w.heap.size) (fun ys => ys = eight) (fun pre => ∃ k, k < 8 ∧ pre = eight.take (k + 1)) 8 w := fun l J Jx W hW hJ _ hY h0 =>
  rules1_in F n h6 hro hn l w.heap.size J Jx hY W hW.size (fun pre A o hA => hJ pre A _ none hA (World.grownBy_alloc A o none) (fun r e => by cases e)) h0

set_option maxHeartbeats 400000 in
theorem rules_in (F : Fence) (n : Nat) (h5 : F.fn 30) (hro : F.round = none) (w : World) :
    CallsIn F n Tryd.prog 30 #[] w fun e w' => e = .returned (.func (.func 49) #[] #[]) ∧ w' = w := by
  refine callsIn_of_wp Tryd.func30 rfl h5 ?_ hro
  simp only [Tryd.ntmps30, List.size_toArray, List.length_cons, List.length_nil, Nat.reduceAdd, Nat.reduceSub, Array.replicate_succ, Array.replicate_zero, List.push_toArray, List.append_toArray, List.nil_append, List.cons_append]
  gi_wp2
  go_ret
  exact ⟨rfl, rfl⟩

/-- A rule's answer. -/
def ruleB (x : Fin 8) (s : List UInt8) : Bool := match x with
  | 0 => lenP s | 1 => byteP s | 2 => (partsB s).any emptyP | 3 => (partsB s).any dotP | 4 => hasPair 46 46 s | 5 => (partsB s).any endsLock | 6 => endP s | 7 => hasPair 64 123 s
theorem rule_any (x : Fin 8) (w : World) (s : List UInt8) (hm : s.length ≤ 100000) (hM : Mx w) :
    Calls Tryd.prog (ruleF x) #[Str s] w fun e W' => e = .returned (.bool (ruleB x s)) ∧ Below w.heap.size w W' := by
  match x with
  | 0 => exact hasLen_any w s (by omega)
  | 1 => exact hasByte_any w s hm
  | 2 => exact hasEmpty_any w s hm hM
  | 3 => exact hasDot_any w s hm hM
  | 4 => exact hasTwo_any w s hm hM
  | 5 => exact hasLock_any w s hm hM
  | 6 => exact hasEnd_any w s hm
  | 7 => exact hasBrace_any w s hm hM
theorem breaksB_rules (s : List UInt8) : breaksB s = if ruleB 0 s = true then 1 else if ruleB 1 s = true then 2 else if ruleB 2 s = true then 3 else if ruleB 3 s = true then 4 else if ruleB 4 s = true then 5 else if ruleB 5 s = true then 6 else if ruleB 6 s = true then 7 else if ruleB 7 s = true then 8 else 0 := by
  show breaksB s = if decide (s.length < 1 ∨ 100 < s.length) = true then 1 else _
  simp only [decide_eq_true_eq]
  rfl
theorem breaks_first (s : List UInt8) (x : Fin 8) (h : ∀ y : Fin 8, y.1 < x.1 → ruleB y s = false) (hx : ruleB x s = true) : breaksB s = 1 + x.1 := by
  rw [breaksB_rules]
  match x with
  | 0 => rw [hx]; rfl
  | 1 => rw [h 0 (by decide), hx]; rfl
  | 2 => rw [h 0 (by decide), h 1 (by decide), hx]; rfl
  | 3 => rw [h 0 (by decide), h 1 (by decide), h 2 (by decide), hx]; rfl
  | 4 => rw [h 0 (by decide), h 1 (by decide), h 2 (by decide), h 3 (by decide), hx]; rfl
  | 5 => rw [h 0 (by decide), h 1 (by decide), h 2 (by decide), h 3 (by decide), h 4 (by decide), hx]; rfl
  | 6 => rw [h 0 (by decide), h 1 (by decide), h 2 (by decide), h 3 (by decide), h 4 (by decide), h 5 (by decide), hx]; rfl
  | 7 => rw [h 0 (by decide), h 1 (by decide), h 2 (by decide), h 3 (by decide), h 4 (by decide), h 5 (by decide), h 6 (by decide), hx]; rfl
theorem breaks_never (s : List UInt8) (h : ∀ y : Fin 8, ruleB y s = false) : breaksB s = 0 := by
  rw [breaksB_rules, h 0, h 1, h 2, h 3, h 4, h 5, h 6, h 7]; rfl
theorem eight_mem : ∀ y : Fin 8, y ∈ eight := by decide
theorem eight_before : ∀ (k : Nat), k < 8 → ∀ (pre : List (Fin 8)) (x : Fin 8), eight.take (k + 1) = pre ++ [x] → ∀ y : Fin 8, y.1 < x.1 → y ∈ pre := fun k hk pre x h => by
  rw [eight_take hk] at h
  obtain ⟨rfl, h2⟩ := List.append_inj' h rfl
  have hx : x = ⟨k, hk⟩ := (List.cons.inj h2).1.symm
  subst hx
  have key : ∀ z y : Fin 8, y.1 < z.1 → y ∈ eight.take z.1 := by decide
  exact key ⟨k, hk⟩
theorem ruleF_cases : ∀ x : Fin 8, ruleF x = 50 ∨ ruleF x = 51 ∨ ruleF x = 52 ∨ ruleF x = 53 ∨ ruleF x = 54 ∨ ruleF x = 55 ∨ ruleF x = 56 ∨ ruleF x = 57 := by decide
end Go.Proofs.YtldgnkngjdgiaaaDoor
