/- The program's Breaks. -/
import Derived.Test.YtldgnkngjdgiaaaDoorRefnIter
namespace Go.Proofs.YtldgnkngjdgiaaaDoor
open Go.RowKit Go.Shelf
attribute [local go_sem] Oper.semAt_some

theorem fold2 (t : Array Value) (p q : Nat) (u v : Value) : Array.foldl (fun (t : Array Value) (x : Nat × Value) => t.setIfInBounds x.fst x.snd) t (#[p, q].zip #[u, v]) = (t.setIfInBounds p u).setIfInBounds q v := by simp
theorem KpC.setLow {n₀ : Nat} {W : World} {q : Addr} (hq : q.block < n₀) (v : Value) : KpC n₀ W (W.setCell q v) := fun p u hp h => by
  exact (World.cell?_setCell_other W _ _ _ (fun e => by have := congrArg Addr.block e; omega)).trans h

set_option maxRecDepth 100000 in
set_option maxHeartbeats 2000000 in
theorem pBreaks_in (w : World) (s : List UInt8) (hm : s.length ≤ 100000) (hM : Mx w) :
    CallsIn Fence.wide 3 Tryd.prog 9 #[Str s] w fun e W' => e = .returned (.int .i64 (breaksB s : Nat)) ∧ Below w.heap.size w W' := by
  have hro : Fence.wide.round = none := rfl
  have h5 : Fence.wide.fn 49 := trivial
  have h1 : 1 ≤ 3 := by omega
  refine callsIn_of_wp_marks Tryd.func9 rfl trivial ?_ hro
  simp only [Tryd.ntmps9, List.size_toArray, List.length_cons, List.length_nil, Nat.reduceAdd, Nat.reduceSub, Array.replicate_succ, Array.replicate_zero, List.push_toArray, List.append_toArray, List.nil_append, List.cons_append]
  gi_wp2
  refine wpIn_scope_wide ?_
  gi_wp2
  refine wpIn_label_wide ?_
  gi_wp2_with (refine ⟨trivial, ?_⟩; gi_at_call 30; refine (rules_in Fence.wide 2 trivial hro _).mono ?_; rintro e w' ⟨rfl, rfl⟩)
  have bN := Boxed.new w 9 (Str s)
  have bF := Boxed.new (w.alloc (.cells #[Str s] 9)) 3 (.int .i64 0)
  rw [World.size_alloc] at bF
  have hB0 : Below w.heap.size w ((w.alloc (.cells #[Str s] 9)).alloc (.cells #[.int .i64 0] 3)) := ((Below.refl _ w).alloc (Nat.le_refl _) _).alloc (by simp) _
  have hM0 := hM.below hB0
  have bN' := bN.alloc (.cells #[.int .i64 0] 3)
  have hsz0 : ((w.alloc (.cells #[Str s] 9)).alloc (.cells #[.int .i64 0] 3)).heap.size = w.heap.size + 2 := by simp
  generalize ((w.alloc (.cells #[Str s] 9)).alloc (.cells #[.int .i64 0] 3)) = w0 at *
  clear bN
  refine wpIn_rangeFunc_ownH hro h1 (gf := 49) (lb := #[]) rfl h5 (enters_of Tryd.func49 (by kernel_rfl) rfl)
    (rules_stops Fence.wide (3 - 1) h5 hro (by omega) w0) KpC.trans (fun W l o o' _ hl ho _ p v _ hc => cell_kept hc (grownBy_putObj' W l o') (fun r e => by cases e; exact ⟨o, hl, ho⟩)) (Below.refl _ _) (fun _ => rfl)
    (fun pre W => Boxed W (w.heap.size + 1) 3 (.int .i64 0) ∧ Boxed W w.heap.size 9 (Str s) ∧ Mx W ∧ Below w.heap.size w W ∧ ∀ y ∈ pre, ruleB y s = false)
    (fun c pre W => c = .exit 0 ∧ ∃ pre' x, pre = pre' ++ [x] ∧ (∀ y ∈ pre', ruleB y s = false) ∧ ruleB x s = true ∧ Boxed W (w.heap.size + 1) 3 (.int .i64 (1 + (x.1 : Int))) ∧ Below w.heap.size w W)
    (OwnFrom.and (Own.from (boxed_own (w.heap.size + 1) 3 (fun _ : List (Fin 8) => Value.int .i64 0)) _) (OwnFrom.and (Own.from (boxed_own w.heap.size 9 (fun _ : List (Fin 8) => Str s)) _) (OwnFrom.and (fun pre W W' row hs hg hr => by obtain ⟨m, hm⟩ := hs; exact ⟨m, cell_kept hm hg (fun r e => (hr r e).2)⟩) (OwnFrom.and (ownFrom_below (Nat.le_refl _) (by omega)) (fun _ _ _ _ hs _ _ => hs)))))
    (fun c pre W W' row hs hg hr => by
      obtain ⟨hc, pre', x, e1, e2, e3, hb, hB⟩ := hs
      exact ⟨hc, pre', x, e1, e2, e3, (Own.from (boxed_own (w.heap.size + 1) 3 (fun _ : Unit => Value.int .i64 (1 + (x.1 : Int)))) w0.heap.size) () W W' row hb hg hr, (ownFrom_below (β := Unit) (Nat.le_refl _) (by omega)) () W W' row hB hg hr⟩)
    ⟨bF, bN', hM0, hB0, fun y hy => by cases hy⟩
    (fun x a' W => ∃ g, a' = { tmps := #[Str s, .pointer (some ⟨w.heap.size, 0, none⟩), .int .i64 0, .pointer (some ⟨w.heap.size + 1, 0, none⟩), .int .i64 (1 + (x.1 : Int)), .pointer (some ⟨g, 0, none⟩), .func (.func 49) #[] #[], .int .i64 (1 + (x.1 : Int)), .agg #[.func (.func (ruleF x)) #[] #[]], undef, undef, undef, undef, undef, undef], defers := [] } ∧ W.cell? ⟨g, 0, none⟩ = some (.func (.func (ruleF x)) #[] #[]))
    (fun x a' _ W W' row hs hg hr => by obtain ⟨g, e, hc⟩ := hs; exact ⟨g, e, cell_kept hc hg (fun r e => (hr r e).2)⟩)
    ?assign ?body ?done ?stop
  case assign =>
    rintro l pre x W K ⟨hF, hN, hM1, hB1, hpre⟩ hK
    rw [fold2]
    gi_wp2
    have hBa : Below W.heap.size W (W.alloc (.cells #[.func (.func (ruleF x)) #[] #[]] 52)) := (Below.refl _ W).alloc (Nat.le_refl _) _
    refine hK _ _ ((KeepsOthers.alloc W _).from _) (KpC.below hBa) ⟨hF.alloc _, hN.alloc _, hM1.below hBa, hB1.trans (hBa.mono hB1.size), hpre⟩ ⟨W.heap.size, rfl, (Boxed.new W 52 _).cell⟩
  case body =>
    rintro l pre x a' W hl _ ⟨hF, hN, hM1, hB1, hpre⟩ ⟨g, rfl, hg⟩ hlt
    have hru := rule_any x W s hm hM1
    have hNc := hN.cell
    have hfix : ∀ W', Below W.heap.size W W' → Boxed W' (w.heap.size + 1) 3 (.int .i64 0) ∧ Boxed W' w.heap.size 9 (Str s) ∧ Mx W' ∧ Below w.heap.size w W' ∧ KeepsFrom w0.heap.size W W' := fun W' hb =>
      ⟨(hb.block _ hF.lt).trans hF, (hb.block _ hN.lt).trans hN, hM1.below hb, hB1.trans (hb.mono hB1.size), ⟨hb.size, fun k o _ hk _ => (hb.block k (Array.getElem?_eq_some_iff.1 hk).1).trans hk⟩⟩
    have HX := Lib.hid hfix
    clear hfix hF hN hM1 hB1 hM hM0 hB0 bF bN' hl
    cases hr : ruleB x s with
    | true =>
      rw [hr] at hru
      have hxr := hr
      rcases ruleF_cases x with h | h | h | h | h | h | h | h
      all_goals
        rw [h] at hru hg
        clear h
        gi_wp2_with (first
      | (refine ⟨trivial, ?_⟩; gi_at_call 50; refine (CallsIn.inRound l (callsIn_wide.2 hru)).mono ?_; rintro e w' ⟨rfl, hb⟩; have hy := HX.out _ hb; have hFc := hy.1.cell; have hFf := hy.1.frozen)
      | (refine ⟨trivial, ?_⟩; gi_at_call 51; refine (CallsIn.inRound l (callsIn_wide.2 hru)).mono ?_; rintro e w' ⟨rfl, hb⟩; have hy := HX.out _ hb; have hFc := hy.1.cell; have hFf := hy.1.frozen)
      | (refine ⟨trivial, ?_⟩; gi_at_call 52; refine (CallsIn.inRound l (callsIn_wide.2 hru)).mono ?_; rintro e w' ⟨rfl, hb⟩; have hy := HX.out _ hb; have hFc := hy.1.cell; have hFf := hy.1.frozen)
      | (refine ⟨trivial, ?_⟩; gi_at_call 53; refine (CallsIn.inRound l (callsIn_wide.2 hru)).mono ?_; rintro e w' ⟨rfl, hb⟩; have hy := HX.out _ hb; have hFc := hy.1.cell; have hFf := hy.1.frozen)
      | (refine ⟨trivial, ?_⟩; gi_at_call 54; refine (CallsIn.inRound l (callsIn_wide.2 hru)).mono ?_; rintro e w' ⟨rfl, hb⟩; have hy := HX.out _ hb; have hFc := hy.1.cell; have hFf := hy.1.frozen)
      | (refine ⟨trivial, ?_⟩; gi_at_call 55; refine (CallsIn.inRound l (callsIn_wide.2 hru)).mono ?_; rintro e w' ⟨rfl, hb⟩; have hy := HX.out _ hb; have hFc := hy.1.cell; have hFf := hy.1.frozen)
      | (refine ⟨trivial, ?_⟩; gi_at_call 56; refine (CallsIn.inRound l (callsIn_wide.2 hru)).mono ?_; rintro e w' ⟨rfl, hb⟩; have hy := HX.out _ hb; have hFc := hy.1.cell; have hFf := hy.1.frozen)
      | (refine ⟨trivial, ?_⟩; gi_at_call 57; refine (CallsIn.inRound l (callsIn_wide.2 hru)).mono ?_; rintro e w' ⟨rfl, hb⟩; have hy := HX.out _ hb; have hFc := hy.1.cell; have hFf := hy.1.frozen))
        exact ⟨hy.2.2.2.2.trans ((KeepsOthers.setCell _ _ _).from _), rfl, pre, x, rfl, hpre, hxr, hy.1.set _, hy.2.2.2.1.setCell (p := ⟨w.heap.size + 1, 0, none⟩) (by simp) _⟩
    | false =>
      rw [hr] at hru
      have hxr := hr
      rcases ruleF_cases x with h | h | h | h | h | h | h | h
      all_goals
        rw [h] at hru hg
        clear h
        gi_wp2_with (first
      | (refine ⟨trivial, ?_⟩; gi_at_call 50; refine (CallsIn.inRound l (callsIn_wide.2 hru)).mono ?_; rintro e w' ⟨rfl, hb⟩; have hy := HX.out _ hb; have hFc := hy.1.cell; have hFf := hy.1.frozen)
      | (refine ⟨trivial, ?_⟩; gi_at_call 51; refine (CallsIn.inRound l (callsIn_wide.2 hru)).mono ?_; rintro e w' ⟨rfl, hb⟩; have hy := HX.out _ hb; have hFc := hy.1.cell; have hFf := hy.1.frozen)
      | (refine ⟨trivial, ?_⟩; gi_at_call 52; refine (CallsIn.inRound l (callsIn_wide.2 hru)).mono ?_; rintro e w' ⟨rfl, hb⟩; have hy := HX.out _ hb; have hFc := hy.1.cell; have hFf := hy.1.frozen)
      | (refine ⟨trivial, ?_⟩; gi_at_call 53; refine (CallsIn.inRound l (callsIn_wide.2 hru)).mono ?_; rintro e w' ⟨rfl, hb⟩; have hy := HX.out _ hb; have hFc := hy.1.cell; have hFf := hy.1.frozen)
      | (refine ⟨trivial, ?_⟩; gi_at_call 54; refine (CallsIn.inRound l (callsIn_wide.2 hru)).mono ?_; rintro e w' ⟨rfl, hb⟩; have hy := HX.out _ hb; have hFc := hy.1.cell; have hFf := hy.1.frozen)
      | (refine ⟨trivial, ?_⟩; gi_at_call 55; refine (CallsIn.inRound l (callsIn_wide.2 hru)).mono ?_; rintro e w' ⟨rfl, hb⟩; have hy := HX.out _ hb; have hFc := hy.1.cell; have hFf := hy.1.frozen)
      | (refine ⟨trivial, ?_⟩; gi_at_call 56; refine (CallsIn.inRound l (callsIn_wide.2 hru)).mono ?_; rintro e w' ⟨rfl, hb⟩; have hy := HX.out _ hb; have hFc := hy.1.cell; have hFf := hy.1.frozen)
      | (refine ⟨trivial, ?_⟩; gi_at_call 57; refine (CallsIn.inRound l (callsIn_wide.2 hru)).mono ?_; rintro e w' ⟨rfl, hb⟩; have hy := HX.out _ hb; have hFc := hy.1.cell; have hFf := hy.1.frozen))
        exact ⟨hy.2.2.2.2, KpC.below hb, hy.1, hy.2.1, hy.2.2.1, hy.2.2.2.1, fun y hyy => by
          rcases List.mem_append.1 hyy with h1 | h1
          · exact hpre y h1
          · rw [List.mem_singleton.1 h1]; exact hxr⟩
  case done =>
    rintro D ys W hD rfl ⟨hF, hN, hM1, hB1, hpre⟩ hK
    have hc := hF.cell
    have HE := Lib.hid (breaks_never s (fun y => hpre y (eight_mem y)))
    gi_wp2
    refine ⟨by simp, .inl ⟨_, _, rfl, run_takeDeferred hK, ?_⟩⟩
    exact ⟨_, results_tmp rfl _ _ _, by rw [HE.out]; rfl, hB1.trans (belowK_b (w := w) (Nat.le_refl _) W D _ _ (by omega) hK rfl rfl)⟩
  case stop =>
    rintro D c pre W hD ⟨k, hk, hpre⟩ ⟨rfl, pre', x, e1, e2, e3, hF, hB1⟩ hK
    have hc := hF.cell
    have HE := Lib.hid (breaks_first s x (fun y hy => e2 y (eight_before k hk pre' x (hpre.symm.trans e1) y hy)) e3)
    gi_wp2
    refine ⟨by simp, .inl ⟨_, _, rfl, run_takeDeferred hK, ?_⟩⟩
    exact ⟨_, results_tmp rfl _ _ _, by rw [HE.out]; simp, hB1.trans (belowK_b (w := w) (Nat.le_refl _) W D _ _ (by omega) hK rfl rfl)⟩
/-- Breaks. -/
theorem pBreaks_any (w : World) (s : List UInt8) (hm : s.length ≤ 100000) (hM : Mx w) :
    Calls Tryd.prog 9 #[Str s] w fun e W' => e = .returned (.int .i64 (breaksB s : Nat)) ∧ Below w.heap.size w W' := callsIn_wide.1 (pBreaks_in w s hm hM)
end Go.Proofs.YtldgnkngjdgiaaaDoor
