/- The iterator over the bytes that a Source has left (taken): each is taken before it is told. -/
import Derived.Test.YtfoeelhghdonbaaGreatLebSrc
import Derived.Test.YtfoeelhghdonbaaGreatSeqLaw
import Derived.Test.YtfoeelhghdonbaaGreatRound
import Derived.StillTailTactics
namespace Go.Proofs.YtfoeelhghdonbaaGreat
open Go.RowKit Go.Shelf
attribute [local go_sem] Oper.semAt_some

/-- The Source has left what is behind pre. -/
def LeftAt (g : Nat) (v : Value) (xs pre : List UInt8) (W : World) : Prop := ∃ rest u, xs = pre ++ rest ∧ SourceAt W g u rest ∧ u.ownBlock = v.ownBlock
/-- What the iterator does of its own: a store into the Source. -/
def TakeSt (g : Nat) (A B : World) : Prop := ∃ u, B = (A.setCell ⟨g, 0, none⟩ u).drew
/-- What a round keeps. -/
def TakeKp (g Bn : Nat) (v : Value) (W W' : World) : Prop := W.heap.size ≤ W'.heap.size ∧ ∀ k, (k = g ∨ k = Bn ∨ v.ownBlock = some k) → W'.heap[k]? = W.heap[k]?

theorem TakeKp.source {g Bn : Nat} {v u : Value} {W W' : World} {xs : List UInt8} (h : TakeKp g Bn v W W') (hu : u.ownBlock = v.ownBlock) (hs : SourceAt W g u xs) : SourceAt W' g u xs := by
  refine ⟨(h.2 g (.inl rfl)).trans hs.box, ?_, fun j hj => ⟨Nat.lt_of_lt_of_le (hs.row j hj).1 h.1, (hs.row j hj).2⟩⟩
  rcases hs.bytes with hr | ⟨ad, c, rfl, hc, hx⟩
  · exact .inl hr
  · exact .inr ⟨ad, c, rfl, hc, fun i x hi => (World.cell?_of_block (by rw [add_block]; exact h.2 ad.block (.inr (.inr (hu ▸ rfl))))).trans (hx i x hi)⟩

set_option maxRecDepth 100000 in
set_option maxHeartbeats 1000000 in
theorem taken1_in (n : Nat) (l g Bn : Nat) (v : Value) (xs : List UInt8) (hlen : xs.length ≤ 140737488355328) (hBg : Bn ≠ g) (J Jx : List UInt8 → World → Prop) (hJs : ∀ s A B, J s A → TakeSt g A B → J s B)
    (hY : ∀ pre x W1, J pre W1 → xs[pre.length]? = some x → YieldAt Fence.wide (n - 1) Tryz.prog l #[.int .i64 (pre.length : Int), B8 x] W1 fun e W' =>
      (e = .returned (.bool true) ∧ J (pre ++ [x]) W' ∧ TakeKp g Bn v W1 W') ∨ (e = .returned (.bool false) ∧ Jx (pre ++ [x]) W' ∧ TakeKp g Bn v W1 W'))
    (W : World) (hB : Boxed W Bn 77 (.pointer (some ⟨g, 0, none⟩))) (hat : SourceAt W g v xs) (h0 : J [] W) :
    CallsIn Fence.wide n Tryz.prog 104 #[.func (.yield l) #[] #[], .pointer (some ⟨Bn, 0, none⟩)] W fun e W' => (∃ v, e = .returned v) ∧
      ((∃ ys, (ys = xs ∧ LeftAt g v xs ys W') ∧ J ys W') ∨ (∃ pre, LeftAt g v xs pre W' ∧ Jx pre W')) := by
  refine callsIn_of_wp Tryz.func104 rfl trivial ?_ rfl
  simp only [Tryz.ntmps104, List.size_toArray, List.length_cons, List.length_nil, Nat.reduceAdd, Nat.reduceSub, Array.replicate_succ, Array.replicate_zero, List.push_toArray, List.append_toArray, List.nil_append, List.cons_append]
  gi_wp2
  gi_loopw [3] (fun p wr => ∃ (pre rest : List UInt8) (u : Value), p = .int .i64 (pre.length : Int) ∧ xs = pre ++ rest ∧ SourceAt wr g u rest ∧ u.ownBlock = v.ownBlock ∧ Boxed wr Bn 77 (.pointer (some ⟨g, 0, none⟩)) ∧ J pre wr)
    (fun p _ => xs.length - (intOf p).toNat)
  case atStart =>
    exact ⟨[], xs, v, rfl, rfl, hat, rfl, hB, h0⟩
  case round =>
    obtain ⟨pre, rest, u, rfl, hx, hsrc, hub, hbx, hJ⟩ := hrel
    have hcB := hbx.cell
    have hcg := hsrc.box.cell
    have hfg := hsrc.box.frozen
    have HX := Lib.hid hx
    have HU := Lib.hid hub
    clear hx hub
    cases rest with
    | nil =>
      obtain ⟨A, c, rfl, hc⟩ := hsrc.bytes.form
      gi_wp2
      go_end0
      exact ⟨⟨_, rfl⟩, .inl ⟨xs, ⟨rfl, [], _, by simp, hsrc, HU.out⟩, by have := HX.out; rw [List.append_nil] at this; rw [this]; exact hJ⟩⟩
    | cons x rest =>
      have hlx : (pre ++ x :: rest).length ≤ 140737488355328 := HX.out ▸ hlen
      simp only [List.length_append, List.length_cons] at hlx
      obtain ⟨b, off, c, rfl, hc, hcells⟩ := hsrc.bytes.cons
      have hc0 : wr.cell? ⟨b, off, none⟩ = some (B8 x) := by simpa using hcells 0 x rfl
      clear hcells
      gi_wp2
      obtain ⟨A', hA'⟩ : ∃ A', (if c = 1 then some (⟨b, off, none⟩ : Addr) else some ⟨b, off + 1, none⟩) = A' := ⟨_, rfl⟩
      have h1 : (1 : Int) ≤ (rest.length : Int) + 1 := by omega
      have hbs : Bs wr (.slice A' rest.length (c - 1)) rest := by
        have h := hsrc.bytes.drop (k := 1) (by simp)
        simp only [List.length_cons, Nat.add_sub_cancel, List.drop_succ_cons, List.drop_zero, Option.map_some, add_plain] at h
        rw [← hA']
        exact h
      have hob : (Value.slice A' rest.length (c - 1)).ownBlock = v.ownBlock := by
        rw [← hA', ← HU.out]
        split <;> rfl
      have HO := Lib.hid hob
      clear hob
      refine wpIn_wide_held (fun W1 => W1.cell? ⟨Bn, 0, none⟩ = some (.pointer (some ⟨g, 0, none⟩))) (by kernel_rfl) ?_
      refine wpAnyH_take (i := 0) (v := .pointer (some ⟨g, 0, none⟩)) rfl (by kernel_rfl) (by kernel_rfl) (by kernel_rfl) (fun _ _ _ h => h) (.inl ⟨rfl, fun W1 hW1 => by go_simp⟩) hcB ?_
      refine wpAnyH_take (i := 1) (v := .pointer (some ⟨g, 0, none⟩)) rfl (by kernel_rfl) (by kernel_rfl) (by kernel_rfl) (fun _ _ _ h => h) (.inl ⟨rfl, fun W1 hW1 => by go_simp⟩) hcB ?_
      refine wpAnyH_take (i := 2) (v := .pointer (some ⟨g, 0, none⟩)) rfl (by kernel_rfl) (by kernel_rfl) (by kernel_rfl) (fun _ _ _ h => h) (.inl ⟨rfl, fun W1 hW1 => by go_simp⟩) hcB ?_
      refine wpAnyH_take (i := 3) (v := .pointer (some ⟨g, 0, none⟩)) rfl (by kernel_rfl) (by kernel_rfl) (by kernel_rfl) (fun _ _ _ h => h) (.inl ⟨rfl, fun W1 hW1 => by go_simp⟩) hcB ?_
      refine wpAnyH_one (i := 4) (by kernel_rfl) rfl rfl (fun K hK => ?_)
      unfold Oper.wp
      go_simp
      refine hK _ _ hcB ?_
      clear hK K
      refine wpAnyH_take (i := 5) (v := .slice A' rest.length (c - 1)) rfl (by kernel_rfl) (by kernel_rfl) (by kernel_rfl) (fun _ _ _ h => h) (.inl ⟨rfl, fun W1 hW1 => by go_simp⟩) hcB ?_
      refine wpAnyH_take (i := 6) (v := .pointer (some ⟨g, 0, none⟩)) rfl (by kernel_rfl) (by kernel_rfl) (by kernel_rfl) (fun _ _ _ h => h) (.inl ⟨rfl, fun W1 hW1 => by go_simp⟩) hcB ?_
      refine wpAnyH_take (i := 7) (v := .pointer (some ⟨g, 0, none⟩)) rfl (by kernel_rfl) (by kernel_rfl) (by kernel_rfl) (fun _ _ _ h => h) (.inl ⟨rfl, fun W1 hW1 => by go_simp⟩) hcB ?_
      refine wpAnyH_one (i := 8) (by kernel_rfl) rfl rfl (fun K hK => ?_)
      unfold Oper.wp
      go_simp
      have hbx3 := hbx.other (B' := g) hBg (.slice A' rest.length (c - 1))
      have hsrc3 : SourceAt (wr.setCell ⟨g, 0, none⟩ (.slice A' rest.length (c - 1))).drew g (.slice A' rest.length (c - 1)) rest :=
        ⟨hsrc.box.set _, (Kept.setCell (p := ⟨g, 0, none⟩) (Kept.refl (fun j => j = g) wr) (fun _ => rfl) _).bs hbs (fun j hj => (hsrc.row j (HU.out.symm ▸ HO.out ▸ hj)).2), fun j hj => ⟨Nat.lt_of_lt_of_le (hsrc.row j (HU.out.symm ▸ HO.out ▸ hj)).1 (by simp [World.setCell]), (hsrc.row j (HU.out.symm ▸ HO.out ▸ hj)).2⟩⟩
      obtain ⟨fn, tmps, assign, body, hy, hR⟩ := hY pre x (wr.setCell ⟨g, 0, none⟩ (.slice A' rest.length (c - 1))).drew (hJs _ _ _ hJ ⟨_, rfl⟩) (by rw [HX.out]; simp)
      refine hK _ _ hbx3.cell ?_
      clear hK K
      refine wpAnyH_fin (by kernel_rfl) ?_ _
      clear hA' hY hJs
      gi_wp2
      refine ⟨fun h => (by cases h), hR.mono ?_⟩
      rintro e W3 (⟨rfl, hJ3, hk3⟩ | ⟨rfl, hJx3, hk3⟩)
      · have hsrc4 := hk3.source HO.out hsrc3
        have hbx4 : Boxed W3 Bn 77 (.pointer (some ⟨g, 0, none⟩)) := (hk3.2 Bn (.inr (.inl rfl))).trans hbx3
        clear hcB hcg hfg hc0 hy
        gi_wp2
        go_roundw
        case rel => exact ⟨pre ++ [x], rest, _, by simp, by rw [HX.out]; simp, hsrc4, HO.out, hbx4, hJ3⟩
        case measure => have := congrArg List.length HX.out; simp at this; simp [intOf]; omega
      · have hsrc4 := hk3.source HO.out hsrc3
        clear hcB hcg hfg hc0 hy
        gi_wp2
        refine bodyPost_ret (results_none rfl _ _ _) rfl ?_
        exact ⟨⟨_, rfl⟩, .inr ⟨pre ++ [x], ⟨rest, _, by rw [HX.out]; simp, hsrc4, HO.out⟩, hJx3⟩⟩

set_option maxHeartbeats 400000 in
/-- s.taken(): the Source is boxed; the function value captures the box. -/
theorem taken_in (n : Nat) (g : Nat) (w : World) :
    CallsIn Fence.wide n Tryz.prog 103 #[.pointer (some ⟨g, 0, none⟩)] w fun e w' => e = .returned (.func (.func 104) #[] #[.pointer (some ⟨w.heap.size, 0, none⟩)]) ∧ w' = w.alloc (.cells #[.pointer (some ⟨g, 0, none⟩)] 77) := by
  refine callsIn_of_wp Tryz.func103 rfl trivial ?_ rfl
  simp only [Tryz.ntmps103, List.size_toArray, List.length_cons, List.length_nil, Nat.reduceAdd, Nat.reduceSub, Array.replicate_succ, Array.replicate_zero, List.push_toArray, List.append_toArray, List.nil_append, List.cons_append]
  gi_wp2
  go_ret
  exact ⟨rfl, rfl⟩

theorem taken_seq (n : Nat) (g Bn : Nat) (v : Value) (xs : List UInt8) (hlen : xs.length ≤ 140737488355328) (hBg : Bn ≠ g) (w : World) (hB : Boxed w Bn 77 (.pointer (some ⟨g, 0, none⟩))) (hat : SourceAt w g v xs) :
    SeqSt Fence.wide n Tryz.prog 104 #[.pointer (some ⟨Bn, 0, none⟩)] (fun (pre : List UInt8) (x : UInt8) => #[.int .i64 (pre.length : Int), B8 x]) (TakeSt g) (TakeKp g Bn v) (fun pre x => xs[pre.length]? = some x)
      (fun ys W => ys = xs ∧ LeftAt g v xs ys W) (fun pre W => LeftAt g v xs pre W) w := fun l J Jx W hW hJs hY h0 =>
  taken1_in n l g Bn v xs hlen hBg J Jx hJs hY W ((hW.block Bn hB.lt).trans hB) (hat.kept (Kept.of_below hW (Nat.le_refl _) (fun _ => False)) (fun h => h) (fun _ _ h => h)) h0

theorem TakeKp.putObj {g Bn l : Nat} {v : Value} {W : World} (hg : g < l) (hB : Bn < l) (hr : ∀ j, v.ownBlock = some j → j < l) (o : Obj) : TakeKp g Bn v W (W.putObj l o) :=
  ⟨by simp, fun k hk => World.putObj_heap_other (by
    rcases hk with rfl | rfl | hk
    · omega
    · omega
    · have := hr k hk; omega)⟩
theorem TakeKp.of_kept {T : Nat → Prop} {g Bn : Nat} {v : Value} {W W' : World} (h : Kept T W W') (hs : ∀ k, (k = g ∨ k = Bn ∨ v.ownBlock = some k) → k < W.heap.size ∧ ¬ T k) : TakeKp g Bn v W W' :=
  ⟨h.size, fun k hk => h.block k (hs k hk).1 (hs k hk).2⟩
theorem LeftAt.turn {g B : Nat} {v : Value} {xs s : List UInt8} {W W' : World} {row : Option Nat} (h : LeftAt g v xs s W) (hg : W.grownBy W' row) (hr : ∀ r, row = some r → B ≤ r ∧ ∃ o : Obj, W.heap[r]? = some o ∧ o.isCells = false) (hgB : g < B) (hv : ∀ j, v.ownBlock = some j → j < B) : LeftAt g v xs s W' := by
  obtain ⟨rest, u, hx, hs, hu⟩ := h
  exact ⟨rest, u, hx, hs.kept (Kept.of_grown hg) (fun e => by have := (hr g e).1; omega) (fun j hj e => by have := (hr j e).1; have := hv j (hu ▸ hj); omega), hu⟩
end Go.Proofs.YtfoeelhghdonbaaGreat
