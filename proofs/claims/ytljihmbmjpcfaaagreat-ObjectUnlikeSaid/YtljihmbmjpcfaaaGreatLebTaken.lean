/- A range over an iterator that takes steps of its own between two rounds (it writes cells that the loop's body does not touch): one law for the caller. The iterator over the bytes that a Source has left (taken): each is taken before it is told. -/
import Derived.RangeFuncNested
import Derived.RangeFuncBox
import Derived.Test.YtljihmbmjpcfaaaGreatLebSrc
import Derived.Test.YtljihmbmjpcfaaaGreatRound
import Derived.StillTailTactics
namespace Go.Proofs.YtljihmbmjpcfaaaGreat
open Go Go.RowKit

/-- How the body of a round may be left. -/
def stPost {α : Type} (B : Nat) (Kp : World → World → Prop) (I : List α → World → Prop) (Ix : Code → List α → World → Prop) (xs : List α) (W : World) : Exit → Act → World → Prop
  | .normal, _, W' => KeepsFrom B W W' ∧ Kp W W' ∧ I xs W'
  | .ret, _, W' => KeepsFrom B W W' ∧ Kp W W' ∧ Ix .ret xs W'
  | .exit id, _, W' => KeepsFrom B W W' ∧ Kp W W' ∧ Ix (.exit id) xs W'
  | .goto t, _, W' => KeepsFrom B W W' ∧ Kp W W' ∧ Ix (.goto t) xs W'
  | .panic _, _, _ => False
  | .outgrown, _, _ => False

/-- The contract of an iterator that takes steps St of its own. Nx: which element comes next; S, Sx: what the iterator leaves of its own, having run out, or having been stopped. -/
def SeqSt {α : Type} (F : Fence) (n : Nat) (P : Program) (gf : Nat) (lb : Array Value) (encs : List α → α → Array Value) (St Kp : World → World → Prop) (Nx : List α → α → Prop) (S Sx : List α → World → Prop) (w : World) : Prop :=
  ∀ (l : Nat) (J Jx : List α → World → Prop) (W : World), Below w.heap.size w W → (∀ s A B, J s A → St A B → J s B) →
    (∀ pre x W1, J pre W1 → Nx pre x → YieldAt F (n - 1) P l (encs pre x) W1 fun e W' =>
      (e = .returned (.bool true) ∧ J (pre ++ [x]) W' ∧ Kp W1 W') ∨ (e = .returned (.bool false) ∧ Jx (pre ++ [x]) W' ∧ Kp W1 W')) →
    J [] W →
    CallsIn F n P gf (#[.func (.yield l) #[] #[]] ++ lb) W fun e W' => (∃ v, e = .returned v) ∧ ((∃ xs, S xs W' ∧ J xs W') ∨ (∃ pre, Sx pre W' ∧ Jx pre W'))

variable {F : Fence} {n : Nat} {P : Program}

theorem wpIn_rangeFunc_st {α : Type} {g : Operand} {ps : Array Tmp} {assign body : Code} {Q : Exit → Act → World → Prop} {a : Act} {w : World}
    (hro : F.round = none) (h1 : 1 ≤ n) {gf : Nat} {lb : Array Value} (hg : a.eval g = .func (.func gf) #[] lb) (hFg : F.fn gf) (eg : ∀ args w, (callFunc gf args).run P w = .ok (.enter gf args) w)
    {encs : List α → α → Array Value} {St Kp : World → World → Prop} {Nx : List α → α → Prop} {S Sx : List α → World → Prop} (hseq : SeqSt F (n - 1) P gf lb encs St Kp Nx S Sx w)
    (hKt : ∀ {A B C : World}, Kp A B → Kp B C → Kp A C) (hKb : ∀ (W : World) (l : Nat) (o o' : Obj), w.heap.size ≤ l → W.heap[l]? = some o → o.isCells = false → Kp W (W.putObj l o'))
    (hSt : ∀ A B, St A B → KeepsOthers A B) (hps : ∀ pre x, (encs pre x).size = ps.size)
    (hS : OwnFrom w.heap.size S) (hSx : OwnFrom w.heap.size Sx)
    (I : List α → World → Prop) (Ix : Code → List α → World → Prop) (hI : OwnFrom w.heap.size I) (hIx : ∀ c, OwnFrom w.heap.size (Ix c)) (hIs : ∀ s A B, I s A → St A B → I s B) (h0 : I [] w) (a₁ : List α → α → Act)
    (hassign : ∀ (l : Nat) (pre : List α) (x : α) (W : World) (K : Act → World → Prop), K (a₁ pre x) W →
      assign.wpIn (F.inRound l) (n - 1 - 1) P (Exit.then K (fun _ _ _ => False)) { tmps := (ps.zip (encs pre x)).foldl (fun t (p, v) => t.setIfInBounds p v) a.tmps, defers := [] } W)
    (hbody : ∀ (l : Nat) (pre : List α) (x : α) (W : World), I pre W → Nx pre x → body.wpIn (F.inRound l) (n - 1 - 1) P (stPost w.heap.size Kp I Ix (pre ++ [x]) W) (a₁ pre x) W)
    (hdone : ∀ (D : Nat) (xs : List α) (W : World), w.heap.size ≤ D → S xs W → I xs W → W.heap[D]? = some (.deferred (some [])) → Q .normal { a with defers := { target := .collected D, args := #[] } :: a.defers } W)
    (hstop : ∀ (D : Nat) (c : Code) (pre : List α) (W : World), w.heap.size ≤ D → Sx pre W → Ix c pre W → W.heap[D]? = some (.deferred (some [])) → c.wpIn F n P Q { a with defers := { target := .collected D, args := #[] } :: a.defers } W) :
    (Code.rangeFunc g ps assign body).wpIn F n P Q a w := by
  refine wpIn_rangeFunc ?_
  intro fn hfn
  rw [hro]
  -- the loop's record, as it is at each time
  obtain ⟨rec, hrec⟩ : ∃ rec : LoopState → Option Code → Loop, rec = fun st pe => { state := st, pending := pe, fn, tmps := a.tmps, params := ps, assign, body, defers := w.heap.size } := ⟨_, rfl⟩
  obtain ⟨L, hL⟩ : ∃ L, L = w.heap.size + 1 := ⟨_, rfl⟩
  obtain ⟨W1, hW1⟩ : ∃ W1, (w.alloc (.deferred (some []))).alloc (.loop (rec .ready none)) = W1 := ⟨_, rfl⟩
  have hrec1 : W1.heap[L]? = some (.loop (rec .ready none)) := by
    have := World.alloc_heap_new (w.alloc (.deferred (some []))) (.loop (rec .ready none))
    rw [World.size_alloc] at this
    rw [← hW1, hL]; exact this
  have hdef1 : W1.heap[w.heap.size]? = some (.deferred (some [])) := by
    rw [← hW1]; exact (Below.heap_alloc _ _ _ (by simp)).trans (World.alloc_heap_new w _)
  have hI1 : I [] W1 := by rw [← hW1]; exact hI.alloc _ (hI.alloc _ h0)
  have hb1 : Below w.heap.size w W1 := by rw [← hW1]; exact ((Below.refl _ w).alloc (Nat.le_refl _) _).alloc (by simp) _
  refine ⟨L, [{ target := .collected w.heap.size, args := #[] }], W1, { target := .fn (.func gf) lb, args := #[.func (.yield L) #[] #[]] }, W1, gf, #[.func (.yield L) #[] #[]] ++ lb, W1, ?_, ?_, ?_, ?_, fun _ => h1, ?_⟩
  · rw [← hW1, hrec, hL]; exact run_enterLoop_outer _ _ _ _ _
  · simp only [resolve, hg]
    simp [go_sem]
  · intro f' hf'; simp [Target.leads] at hf'; subst hf'; exact hFg
  · simp [invoke, go_sem, eg]
  have hbooks : ∀ {A B : World} {o : Obj} {k : Nat}, KeepsOthers A B → A.heap[k]? = some o → o.isCells = false → B.heap[k]? = some o := fun hk h ho => hk.same _ _ h ho
  refine (hseq L
    (fun pre W => I pre W ∧ W.heap[L]? = some (.loop (rec .ready none)) ∧ W.heap[w.heap.size]? = some (.deferred (some [])))
    (fun pre W => ∃ c, Ix c pre W ∧ W.heap[L]? = some (.loop (rec .done (some c))) ∧ W.heap[w.heap.size]? = some (.deferred (some [])))
    W1 hb1 (fun s A B hs hst => ⟨hIs s A B hs.1 hst, hbooks (hSt A B hst) hs.2.1 rfl, hbooks (hSt A B hst) hs.2.2 rfl⟩) ?_ ⟨hI1, hrec1, hdef1⟩).mono ?_
  · -- one round
    rintro pre x W ⟨hi, hl, hk⟩ hnx
    have hlt : L < W.heap.size := (Array.getElem?_eq_some_iff.1 hl).1
    have hy := run_yield (P := P) (args := encs pre x) hl (by rw [hrec]; exact hps pre x)
    rw [hrec] at hy
    refine ⟨fn, _, assign, body, hy, roundIn_of_wpIn hfn (hassign _ pre x W _ ⟨_, run_beginRound hl (by rw [hrec]), ?_⟩)⟩
    obtain ⟨W2, hW2⟩ : ∃ W2, W.putObj L (.loop { rec .ready none with state := .busy }) = W2 := ⟨_, rfl⟩
    rw [hW2]
    have hl2 : W2.heap[L]? = some (.loop { rec .ready none with state := .busy }) := by rw [← hW2]; exact World.putObj_heap_same hlt
    have hk2 : W2.heap[w.heap.size]? = some (.deferred (some [])) := by rw [← hW2]; exact (World.putObj_heap_other (by omega)).trans hk
    have hp2 : Kp W W2 := by rw [← hW2]; exact hKb _ _ _ _ (by omega) hl rfl
    have hi2 : I pre W2 := by rw [← hW2]; exact hI.putObj _ hi (by omega) hl rfl
    -- the end of a round
    have fin : ∀ (jump : Option Code) (W3 : World), KeepsFrom w.heap.size W2 W3 →
        (Instr.endRound L jump).run P W3 = .ok (.bool jump.isNone) (W3.putObj L (.loop (rec (if jump.isNone then .ready else .done) jump))) ∧
        W3.heap[L]? = some (.loop { rec .ready none with state := .busy }) ∧
        (W3.putObj L (.loop (rec (if jump.isNone then .ready else .done) jump))).heap[L]? = some (.loop (rec (if jump.isNone then .ready else .done) jump)) ∧
        (W3.putObj L (.loop (rec (if jump.isNone then .ready else .done) jump))).heap[w.heap.size]? = some (.deferred (some [])) := fun jump W3 hk3 => by
      have hl3 := hk3.same _ _ (by omega) hl2 rfl
      have hr := run_endRound (P := P) jump hl3
      rw [hrec] at hr ⊢
      exact ⟨hr, by rw [hrec] at hl3; exact hl3, World.putObj_heap_same (Array.getElem?_eq_some_iff.1 hl3).1, (World.putObj_heap_other (by omega)).trans (hk3.same _ _ (Nat.le_refl _) hk2 rfl)⟩
    refine wpIn_mono (hbody _ pre x _ hi2 hnx) ?_
    have leave : ∀ (c : Code) (W3 : World), KeepsFrom w.heap.size W2 W3 ∧ Kp W2 W3 ∧ Ix c (pre ++ [x]) W3 → ∃ v w', (Instr.endRound L (some c)).run P W3 = .ok v w' ∧
        ((Ending.returned v = .returned (.bool true) ∧ (I (pre ++ [x]) w' ∧ w'.heap[L]? = some (.loop (rec .ready none)) ∧ w'.heap[w.heap.size]? = some (.deferred (some []))) ∧ Kp W w') ∨
         (Ending.returned v = .returned (.bool false) ∧ (∃ c, Ix c (pre ++ [x]) w' ∧ w'.heap[L]? = some (.loop (rec .done (some c))) ∧ w'.heap[w.heap.size]? = some (.deferred (some []))) ∧ Kp W w')) := by
      rintro c W3 ⟨hk3, hkp3, hi3⟩
      obtain ⟨hr, hl3, hl4, hk4⟩ := fin (some c) W3 hk3
      exact ⟨_, _, hr, .inr ⟨rfl, ⟨c, (hIx _).putObj _ hi3 (by omega) hl3 rfl, hl4, hk4⟩, hKt (hKt hp2 hkp3) (hKb _ _ _ _ (by omega) hl3 rfl)⟩⟩
    rintro e a3 W3 hp
    cases e with
    | normal =>
      obtain ⟨hk3, hkp3, hi3⟩ := hp
      obtain ⟨hr, hl3, hl4, hk4⟩ := fin none W3 hk3
      exact ⟨_, _, hr, .inl ⟨rfl, ⟨hI.putObj _ hi3 (by omega) hl3 rfl, hl4, hk4⟩, hKt (hKt hp2 hkp3) (hKb _ _ _ _ (by omega) hl3 rfl)⟩⟩
    | ret => exact leave .ret W3 hp
    | exit id => exact leave (.exit id) W3 hp
    | goto t => exact leave (.goto t) W3 hp
    | panic ch => exact hp.elim
    | outgrown => exact hp.elim
  · -- behind the iterator
    rintro e W2 ⟨⟨v, rfl⟩, (⟨xs, hs, hi, hl, hk⟩ | ⟨pre, hs, c, hi, hl, hk⟩)⟩
    · refine ⟨none, _, by have := run_endLoop (P := P) hl (by rw [hrec]; simp); rw [hrec] at this; exact this, ?_⟩
      exact hdone _ xs _ (Nat.le_refl _) (hS.putObj _ hs (by omega) hl rfl) (hI.putObj _ hi (by omega) hl rfl) ((World.putObj_heap_other (by omega)).trans hk)
    · refine ⟨some c, _, by have := run_endLoop (P := P) hl (by rw [hrec]; simp); rw [hrec] at this; exact this, ?_⟩
      exact hstop _ c pre _ (Nat.le_refl _) (hSx.putObj _ hs (by omega) hl rfl) ((hIx c).putObj _ hi (by omega) hl rfl) ((World.putObj_heap_other (by omega)).trans hk)

/-- What a turn of a block that is no cells leaves. -/
theorem boxed_turn {B : Nat} {W W' : World} {row : Option Nat} {k : Nat} {t : TypeId} {v : Value} (h : Boxed W k t v) (hg : W.grownBy W' row) (hr : ∀ r, row = some r → B ≤ r ∧ ∃ o : Obj, W.heap[r]? = some o ∧ o.isCells = false) : Boxed W' k t v :=
  h.kept hg (fun e => by obtain ⟨_, o, ho, hc⟩ := hr k e.symm; rw [show W.heap[k]? = _ from h] at ho; cases ho; cases hc)
end Go.Proofs.YtljihmbmjpcfaaaGreat
namespace Go.Proofs.YtljihmbmjpcfaaaGreat
open Go.RowKit Go.Shelf
attribute [local go_sem] Oper.semAt_some

/-- The Source has left what is behind pre. -/
def LeftAt (g : Nat) (v : Value) (xs pre : List UInt8) (W : World) : Prop := ∃ rest u, xs = pre ++ rest ∧ SourceAt W g u rest ∧ u.ownBlock = v.ownBlock
/-- What the iterator does of its own: a store into the Source. -/
def TakeSt (g : Nat) (A B : World) : Prop := ∃ u, B = (A.setCell ⟨g, 0, none⟩ u).drew
/-- What a round keeps. -/
def TakeKp (g Bn : Nat) (v : Value) (W W' : World) : Prop := W.heap.size ≤ W'.heap.size ∧ ∀ k, (k = g ∨ k = Bn ∨ v.ownBlock = some k) → W'.heap[k]? = W.heap[k]?

theorem TakeKp.source {g Bn : Nat} {v u : Value} {W W' : World} {xs : List UInt8} (h : TakeKp g Bn v W W') (hu : u.ownBlock = v.ownBlock) (hs : SourceAt W g u xs) : SourceAt W' g u xs := by
  refine ⟨(h.2 g (.inl rfl)).trans hs.box, ?_, fun j hj => ⟨Nat.lt_of_lt_of_le (hs.row j hj).1 h.1, (hs.row j hj).2⟩⟩
  rcases hs.bytes with hr | ⟨ad, c, rfl, hc, hx⟩
  · exact .inl hr
  · exact .inr ⟨ad, c, rfl, hc, fun i x hi => (World.cell?_of_block (by rw [add_block]; exact h.2 ad.block (.inr (.inr (hu ▸ rfl))))).trans (hx i x hi)⟩

set_option maxRecDepth 100000 in
set_option maxHeartbeats 1000000 in
theorem taken1_in (n : Nat) (l g Bn : Nat) (v : Value) (xs : List UInt8) (hlen : xs.length ≤ 140737488355328) (hBg : Bn ≠ g) (J Jx : List UInt8 → World → Prop) (hJs : ∀ s A B, J s A → TakeSt g A B → J s B)
    (hY : ∀ pre x W1, J pre W1 → xs[pre.length]? = some x → YieldAt Fence.wide (n - 1) Tryz.prog l #[.int .i64 (pre.length : Int), B8 x] W1 fun e W' =>
      (e = .returned (.bool true) ∧ J (pre ++ [x]) W' ∧ TakeKp g Bn v W1 W') ∨ (e = .returned (.bool false) ∧ Jx (pre ++ [x]) W' ∧ TakeKp g Bn v W1 W'))
    (W : World) (hB : Boxed W Bn 101 (.pointer (some ⟨g, 0, none⟩))) (hat : SourceAt W g v xs) (h0 : J [] W) :
    CallsIn Fence.wide n Tryz.prog 184 #[.func (.yield l) #[] #[], .pointer (some ⟨Bn, 0, none⟩)] W fun e W' => (∃ v, e = .returned v) ∧
      ((∃ ys, (ys = xs ∧ LeftAt g v xs ys W') ∧ J ys W') ∨ (∃ pre, LeftAt g v xs pre W' ∧ Jx pre W')) := by
  refine callsIn_of_wp Tryz.func184 rfl trivial ?_ rfl
  simp only [Tryz.ntmps184, List.size_toArray, List.length_cons, List.length_nil, Nat.reduceAdd, Nat.reduceSub, Array.replicate_succ, Array.replicate_zero, List.push_toArray, List.append_toArray, List.nil_append, List.cons_append]
  gi_wp2
  gi_loopw [3] (fun p wr => ∃ (pre rest : List UInt8) (u : Value), p = .int .i64 (pre.length : Int) ∧ xs = pre ++ rest ∧ SourceAt wr g u rest ∧ u.ownBlock = v.ownBlock ∧ Boxed wr Bn 101 (.pointer (some ⟨g, 0, none⟩)) ∧ J pre wr)
    (fun p _ => xs.length - (intOf p).toNat)
  case atStart =>
    exact ⟨[], xs, v, rfl, rfl, hat, rfl, hB, h0⟩
  case round =>
    obtain ⟨pre, rest, u, rfl, hx, hsrc, hub, hbx, hJ⟩ := hrel
    have hcB := hbx.cell
    have hcg := hsrc.box.cell
    have hfg := hsrc.box.frozen
    have HX := Lib.hid hx
    have HU := Lib.hid hub
    clear hx hub
    cases rest with
    | nil =>
      obtain ⟨A, c, rfl, hc⟩ := hsrc.bytes.form
      gi_wp2
      go_end0
      exact ⟨⟨_, rfl⟩, .inl ⟨xs, ⟨rfl, [], _, by simp, hsrc, HU.out⟩, by have := HX.out; rw [List.append_nil] at this; rw [this]; exact hJ⟩⟩
    | cons x rest =>
      have hlx : (pre ++ x :: rest).length ≤ 140737488355328 := HX.out ▸ hlen
      simp only [List.length_append, List.length_cons] at hlx
      obtain ⟨b, off, c, rfl, hc, hcells⟩ := hsrc.bytes.cons
      have hc0 : wr.cell? ⟨b, off, none⟩ = some (B8 x) := by simpa using hcells 0 x rfl
      clear hcells
      gi_wp2
      obtain ⟨A', hA'⟩ : ∃ A', (if c = 1 then some (⟨b, off, none⟩ : Addr) else some ⟨b, off + 1, none⟩) = A' := ⟨_, rfl⟩
      have h1 : (1 : Int) ≤ (rest.length : Int) + 1 := by omega
      have hbs : Bs wr (.slice A' rest.length (c - 1)) rest := by
        have h := hsrc.bytes.drop (k := 1) (by simp)
        simp only [List.length_cons, Nat.add_sub_cancel, List.drop_succ_cons, List.drop_zero, Option.map_some, add_plain] at h
        rw [← hA']
        exact h
      have hob : (Value.slice A' rest.length (c - 1)).ownBlock = v.ownBlock := by
        rw [← hA', ← HU.out]
        split <;> rfl
      have HO := Lib.hid hob
      clear hob
      refine wpIn_wide_held (fun W1 => W1.cell? ⟨Bn, 0, none⟩ = some (.pointer (some ⟨g, 0, none⟩))) (by kernel_rfl) ?_
      refine wpAnyH_take (i := 0) (v := .pointer (some ⟨g, 0, none⟩)) rfl (by kernel_rfl) (by kernel_rfl) (by kernel_rfl) (fun _ _ _ h => h) (.inl ⟨rfl, fun W1 hW1 => by go_simp⟩) hcB ?_
      refine wpAnyH_take (i := 1) (v := .pointer (some ⟨g, 0, none⟩)) rfl (by kernel_rfl) (by kernel_rfl) (by kernel_rfl) (fun _ _ _ h => h) (.inl ⟨rfl, fun W1 hW1 => by go_simp⟩) hcB ?_
      refine wpAnyH_take (i := 2) (v := .pointer (some ⟨g, 0, none⟩)) rfl (by kernel_rfl) (by kernel_rfl) (by kernel_rfl) (fun _ _ _ h => h) (.inl ⟨rfl, fun W1 hW1 => by go_simp⟩) hcB ?_
      refine wpAnyH_take (i := 3) (v := .pointer (some ⟨g, 0, none⟩)) rfl (by kernel_rfl) (by kernel_rfl) (by kernel_rfl) (fun _ _ _ h => h) (.inl ⟨rfl, fun W1 hW1 => by go_simp⟩) hcB ?_
      refine wpAnyH_one (i := 4) (by kernel_rfl) rfl rfl (fun K hK => ?_)
      unfold Oper.wp
      go_simp
      refine hK _ _ hcB ?_
      clear hK K
      refine wpAnyH_take (i := 5) (v := .slice A' rest.length (c - 1)) rfl (by kernel_rfl) (by kernel_rfl) (by kernel_rfl) (fun _ _ _ h => h) (.inl ⟨rfl, fun W1 hW1 => by go_simp⟩) hcB ?_
      refine wpAnyH_take (i := 6) (v := .pointer (some ⟨g, 0, none⟩)) rfl (by kernel_rfl) (by kernel_rfl) (by kernel_rfl) (fun _ _ _ h => h) (.inl ⟨rfl, fun W1 hW1 => by go_simp⟩) hcB ?_
      refine wpAnyH_take (i := 7) (v := .pointer (some ⟨g, 0, none⟩)) rfl (by kernel_rfl) (by kernel_rfl) (by kernel_rfl) (fun _ _ _ h => h) (.inl ⟨rfl, fun W1 hW1 => by go_simp⟩) hcB ?_
      refine wpAnyH_one (i := 8) (by kernel_rfl) rfl rfl (fun K hK => ?_)
      unfold Oper.wp
      go_simp
      have hbx3 := hbx.other (B' := g) hBg (.slice A' rest.length (c - 1))
      have hsrc3 : SourceAt (wr.setCell ⟨g, 0, none⟩ (.slice A' rest.length (c - 1))).drew g (.slice A' rest.length (c - 1)) rest :=
        ⟨hsrc.box.set _, (Kept.setCell (p := ⟨g, 0, none⟩) (Kept.refl (fun j => j = g) wr) (fun _ => rfl) _).bs hbs (fun j hj => (hsrc.row j (HU.out.symm ▸ HO.out ▸ hj)).2), fun j hj => ⟨Nat.lt_of_lt_of_le (hsrc.row j (HU.out.symm ▸ HO.out ▸ hj)).1 (by simp [World.setCell]), (hsrc.row j (HU.out.symm ▸ HO.out ▸ hj)).2⟩⟩
      obtain ⟨fn, tmps, assign, body, hy, hR⟩ := hY pre x (wr.setCell ⟨g, 0, none⟩ (.slice A' rest.length (c - 1))).drew (hJs _ _ _ hJ ⟨_, rfl⟩) (by rw [HX.out]; simp)
      refine hK _ _ hbx3.cell ?_
      clear hK K
      refine wpAnyH_fin (by kernel_rfl) ?_ _
      clear hA' hY hJs
      gi_wp2
      refine ⟨fun h => (by cases h), hR.mono ?_⟩
      rintro e W3 (⟨rfl, hJ3, hk3⟩ | ⟨rfl, hJx3, hk3⟩)
      · have hsrc4 := hk3.source HO.out hsrc3
        have hbx4 : Boxed W3 Bn 101 (.pointer (some ⟨g, 0, none⟩)) := (hk3.2 Bn (.inr (.inl rfl))).trans hbx3
        clear hcB hcg hfg hc0 hy
        gi_wp2
        go_roundw
        case rel => exact ⟨pre ++ [x], rest, _, by simp, by rw [HX.out]; simp, hsrc4, HO.out, hbx4, hJ3⟩
        case measure => have := congrArg List.length HX.out; simp at this; simp [intOf]; omega
      · have hsrc4 := hk3.source HO.out hsrc3
        clear hcB hcg hfg hc0 hy
        gi_wp2
        refine bodyPost_ret (results_none rfl _ _ _) rfl ?_
        exact ⟨⟨_, rfl⟩, .inr ⟨pre ++ [x], ⟨rest, _, by rw [HX.out]; simp, hsrc4, HO.out⟩, hJx3⟩⟩

set_option maxHeartbeats 400000 in
/-- s.taken(): the Source is boxed; the function value captures the box. -/
theorem taken_in (n : Nat) (g : Nat) (w : World) :
    CallsIn Fence.wide n Tryz.prog 183 #[.pointer (some ⟨g, 0, none⟩)] w fun e w' => e = .returned (.func (.func 184) #[] #[.pointer (some ⟨w.heap.size, 0, none⟩)]) ∧ w' = w.alloc (.cells #[.pointer (some ⟨g, 0, none⟩)] 101) := by
  refine callsIn_of_wp Tryz.func183 rfl trivial ?_ rfl
  simp only [Tryz.ntmps183, List.size_toArray, List.length_cons, List.length_nil, Nat.reduceAdd, Nat.reduceSub, Array.replicate_succ, Array.replicate_zero, List.push_toArray, List.append_toArray, List.nil_append, List.cons_append]
  gi_wp2
  go_ret
  exact ⟨rfl, rfl⟩

theorem taken_seq (n : Nat) (g Bn : Nat) (v : Value) (xs : List UInt8) (hlen : xs.length ≤ 140737488355328) (hBg : Bn ≠ g) (w : World) (hB : Boxed w Bn 101 (.pointer (some ⟨g, 0, none⟩))) (hat : SourceAt w g v xs) :
    SeqSt Fence.wide n Tryz.prog 184 #[.pointer (some ⟨Bn, 0, none⟩)] (fun (pre : List UInt8) (x : UInt8) => #[.int .i64 (pre.length : Int), B8 x]) (TakeSt g) (TakeKp g Bn v) (fun pre x => xs[pre.length]? = some x)
      (fun ys W => ys = xs ∧ LeftAt g v xs ys W) (fun pre W => LeftAt g v xs pre W) w := fun l J Jx W hW hJs hY h0 =>
  taken1_in n l g Bn v xs hlen hBg J Jx hJs hY W ((hW.block Bn hB.lt).trans hB) (hat.kept (Kept.of_below hW (Nat.le_refl _) (fun _ => False)) (fun h => h) (fun _ _ h => h)) h0

theorem TakeKp.putObj {g Bn l : Nat} {v : Value} {W : World} (hg : g < l) (hB : Bn < l) (hr : ∀ j, v.ownBlock = some j → j < l) (o : Obj) : TakeKp g Bn v W (W.putObj l o) :=
  ⟨by simp, fun k hk => World.putObj_heap_other (by
    rcases hk with rfl | rfl | hk
    · omega
    · omega
    · have := hr k hk; omega)⟩
theorem TakeKp.of_kept {T : Nat → Prop} {g Bn : Nat} {v : Value} {W W' : World} (h : Kept T W W') (hs : ∀ k, (k = g ∨ k = Bn ∨ v.ownBlock = some k) → k < W.heap.size ∧ ¬ T k) : TakeKp g Bn v W W' :=
  ⟨h.size, fun k hk => h.block k (hs k hk).1 (hs k hk).2⟩
theorem LeftAt.turn {g B : Nat} {v : Value} {xs s : List UInt8} {W W' : World} {row : Option Nat} (h : LeftAt g v xs s W) (hg : W.grownBy W' row) (hr : ∀ r, row = some r → B ≤ r ∧ ∃ o : Obj, W.heap[r]? = some o ∧ o.isCells = false) (hgB : g < B) (hv : ∀ j, v.ownBlock = some j → j < B) : LeftAt g v xs s W' := by
  obtain ⟨rest, u, hx, hs, hu⟩ := h
  exact ⟨rest, u, hx, hs.kept (Kept.of_grown hg) (fun e => by have := (hr g e).1; omega) (fun j hj e => by have := (hr j e).1; have := hv j (hu ▸ hj); omega), hu⟩
end Go.Proofs.YtljihmbmjpcfaaaGreat
