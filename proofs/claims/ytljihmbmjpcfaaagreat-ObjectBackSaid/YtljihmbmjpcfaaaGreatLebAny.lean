/- The iterator over the bytes that a Source has left (taken): each is taken before it is told. anyNumber, number. -/
import Derived.Test.YtljihmbmjpcfaaaGreatLebSrc
import Derived.Test.YtljihmbmjpcfaaaGreatSeqLaw
import Derived.Test.YtljihmbmjpcfaaaGreatDrawnV
import Derived.StillTailTactics
import Derived.IntWalk
import Derived.Laws.Bits64
import Derived.Laws.BitsLemmas
namespace Go.Proofs.YtljihmbmjpcfaaaGreat
open Go.RowKit Go.Shelf
attribute [local go_sem] Oper.semAt_some

/-- The Source has left what is behind pre. -/
def LeftAt (g : Nat) (v : Value) (xs pre : List UInt8) (W : World) : Prop := ∃ rest u, xs = pre ++ rest ∧ SourceAt W g u rest ∧ u.ownBlock = v.ownBlock
/-- What the iterator does of its own: a store into the Source. -/
def TakeSt (g : Nat) (A B : World) : Prop := ∃ u, B = (A.setCell ⟨g, 0, none⟩ u).drew
/-- What a round keeps. -/
def TakeKp (g Bn : Nat) (v : Value) (W W' : World) : Prop := W.heap.size ≤ W'.heap.size ∧ ∀ k, (k = g ∨ k = Bn ∨ v.ownBlock = some k) → W'.heap[k]? = W.heap[k]?

theorem TakeKp.source {g Bn : Nat} {v u : Value} {W W' : World} {xs : List UInt8} (h : TakeKp g Bn v W W') (hu : u.ownBlock = v.ownBlock) (hs : SourceAt W g u xs) : SourceAt W' g u xs := by
  refine ⟨(h.2 g (.inl rfl)).trans hs.box, ?_, fun j hj => ⟨Nat.lt_of_lt_of_le (hs.row j hj).1 h.1, (hs.row j hj).2⟩⟩
  rcases hs.bytes with hr | ⟨ad, c, rfl, hc, hx⟩
  · exact .inl hr
  · exact .inr ⟨ad, c, rfl, hc, fun i x hi => (World.cell?_of_block (by rw [add_block]; exact h.2 ad.block (.inr (.inr (hu ▸ rfl))))).trans (hx i x hi)⟩

set_option maxRecDepth 100000 in
set_option maxHeartbeats 1000000 in
theorem taken1_in (n : Nat) (l g Bn : Nat) (v : Value) (xs : List UInt8) (hlen : xs.length ≤ 140737488355328) (hBg : Bn ≠ g) (J Jx : List UInt8 → World → Prop) (hJs : ∀ s A B, J s A → TakeSt g A B → J s B)
    (hY : ∀ pre x W1, J pre W1 → xs[pre.length]? = some x → YieldAt Fence.wide (n - 1) Tryz.prog l #[.int .i64 (pre.length : Int), B8 x] W1 fun e W' =>
      (e = .returned (.bool true) ∧ J (pre ++ [x]) W' ∧ TakeKp g Bn v W1 W') ∨ (e = .returned (.bool false) ∧ Jx (pre ++ [x]) W' ∧ TakeKp g Bn v W1 W'))
    (W : World) (hB : Boxed W Bn 101 (.pointer (some ⟨g, 0, none⟩))) (hat : SourceAt W g v xs) (h0 : J [] W) :
    CallsIn Fence.wide n Tryz.prog 184 #[.func (.yield l) #[] #[], .pointer (some ⟨Bn, 0, none⟩)] W fun e W' => (∃ v, e = .returned v) ∧
      ((∃ ys, (ys = xs ∧ LeftAt g v xs ys W') ∧ J ys W') ∨ (∃ pre, LeftAt g v xs pre W' ∧ Jx pre W')) := by
  refine callsIn_of_wp Tryz.func184 rfl trivial ?_ rfl
  simp only [Tryz.ntmps184, List.size_toArray, List.length_cons, List.length_nil, Nat.reduceAdd, Nat.reduceSub, Array.replicate_succ, Array.replicate_zero, List.push_toArray, List.append_toArray, List.nil_append, List.cons_append]
  gi_wp2
  gi_loopw [3] (fun p wr => ∃ (pre rest : List UInt8) (u : Value), p = .int .i64 (pre.length : Int) ∧ xs = pre ++ rest ∧ SourceAt wr g u rest ∧ u.ownBlock = v.ownBlock ∧ Boxed wr Bn 101 (.pointer (some ⟨g, 0, none⟩)) ∧ J pre wr)
    (fun p _ => xs.length - (intOf p).toNat)
  case atStart =>
    exact ⟨[], xs, v, rfl, rfl, hat, rfl, hB, h0⟩
  case round =>
    obtain ⟨pre, rest, u, rfl, hx, hsrc, hub, hbx, hJ⟩ := hrel
    have hcB := hbx.cell
    have hcg := hsrc.box.cell
    have hfg := hsrc.box.frozen
    have HX := Lib.hid hx
    have HU := Lib.hid hub
    clear hx hub
    cases rest with
    | nil =>
      obtain ⟨A, c, rfl, hc⟩ := hsrc.bytes.form
      gi_wp2
      go_end0
      exact ⟨⟨_, rfl⟩, .inl ⟨xs, ⟨rfl, [], _, by simp, hsrc, HU.out⟩, by have := HX.out; rw [List.append_nil] at this; rw [this]; exact hJ⟩⟩
    | cons x rest =>
      have hlx : (pre ++ x :: rest).length ≤ 140737488355328 := HX.out ▸ hlen
      simp only [List.length_append, List.length_cons] at hlx
      obtain ⟨b, off, c, rfl, hc, hcells⟩ := hsrc.bytes.cons
      have hc0 : wr.cell? ⟨b, off, none⟩ = some (B8 x) := by simpa using hcells 0 x rfl
      clear hcells
      gi_wp2
      obtain ⟨A', hA'⟩ : ∃ A', (if c = 1 then some (⟨b, off, none⟩ : Addr) else some ⟨b, off + 1, none⟩) = A' := ⟨_, rfl⟩
      have h1 : (1 : Int) ≤ (rest.length : Int) + 1 := by omega
      have hbs : Bs wr (.slice A' rest.length (c - 1)) rest := by
        have h := hsrc.bytes.drop (k := 1) (by simp)
        simp only [List.length_cons, Nat.add_sub_cancel, List.drop_succ_cons, List.drop_zero, Option.map_some, add_plain] at h
        rw [← hA']
        exact h
      have hob : (Value.slice A' rest.length (c - 1)).ownBlock = v.ownBlock := by
        rw [← hA', ← HU.out]
        split <;> rfl
      have HO := Lib.hid hob
      clear hob
      refine wpIn_wide_held (fun W1 => W1.cell? ⟨Bn, 0, none⟩ = some (.pointer (some ⟨g, 0, none⟩))) (by kernel_rfl) ?_
      refine wpAnyH_take (i := 0) (v := .pointer (some ⟨g, 0, none⟩)) rfl (by kernel_rfl) (by kernel_rfl) (by kernel_rfl) (fun _ _ _ h => h) (.inl ⟨rfl, fun W1 hW1 => by go_simp⟩) hcB ?_
      refine wpAnyH_take (i := 1) (v := .pointer (some ⟨g, 0, none⟩)) rfl (by kernel_rfl) (by kernel_rfl) (by kernel_rfl) (fun _ _ _ h => h) (.inl ⟨rfl, fun W1 hW1 => by go_simp⟩) hcB ?_
      refine wpAnyH_take (i := 2) (v := .pointer (some ⟨g, 0, none⟩)) rfl (by kernel_rfl) (by kernel_rfl) (by kernel_rfl) (fun _ _ _ h => h) (.inl ⟨rfl, fun W1 hW1 => by go_simp⟩) hcB ?_
      refine wpAnyH_take (i := 3) (v := .pointer (some ⟨g, 0, none⟩)) rfl (by kernel_rfl) (by kernel_rfl) (by kernel_rfl) (fun _ _ _ h => h) (.inl ⟨rfl, fun W1 hW1 => by go_simp⟩) hcB ?_
      refine wpAnyH_one (i := 4) (by kernel_rfl) rfl rfl (fun K hK => ?_)
      unfold Oper.wp
      go_simp
      refine hK _ _ hcB ?_
      clear hK K
      refine wpAnyH_take (i := 5) (v := .slice A' rest.length (c - 1)) rfl (by kernel_rfl) (by kernel_rfl) (by kernel_rfl) (fun _ _ _ h => h) (.inl ⟨rfl, fun W1 hW1 => by go_simp⟩) hcB ?_
      refine wpAnyH_take (i := 6) (v := .pointer (some ⟨g, 0, none⟩)) rfl (by kernel_rfl) (by kernel_rfl) (by kernel_rfl) (fun _ _ _ h => h) (.inl ⟨rfl, fun W1 hW1 => by go_simp⟩) hcB ?_
      refine wpAnyH_take (i := 7) (v := .pointer (some ⟨g, 0, none⟩)) rfl (by kernel_rfl) (by kernel_rfl) (by kernel_rfl) (fun _ _ _ h => h) (.inl ⟨rfl, fun W1 hW1 => by go_simp⟩) hcB ?_
      refine wpAnyH_one (i := 8) (by kernel_rfl) rfl rfl (fun K hK => ?_)
      unfold Oper.wp
      go_simp
      have hbx3 := hbx.other (B' := g) hBg (.slice A' rest.length (c - 1))
      have hsrc3 : SourceAt (wr.setCell ⟨g, 0, none⟩ (.slice A' rest.length (c - 1))).drew g (.slice A' rest.length (c - 1)) rest :=
        ⟨hsrc.box.set _, (Kept.setCell (p := ⟨g, 0, none⟩) (Kept.refl (fun j => j = g) wr) (fun _ => rfl) _).bs hbs (fun j hj => (hsrc.row j (HU.out.symm ▸ HO.out ▸ hj)).2), fun j hj => ⟨Nat.lt_of_lt_of_le (hsrc.row j (HU.out.symm ▸ HO.out ▸ hj)).1 (by simp [World.setCell]), (hsrc.row j (HU.out.symm ▸ HO.out ▸ hj)).2⟩⟩
      obtain ⟨fn, tmps, assign, body, hy, hR⟩ := hY pre x (wr.setCell ⟨g, 0, none⟩ (.slice A' rest.length (c - 1))).drew (hJs _ _ _ hJ ⟨_, rfl⟩) (by rw [HX.out]; simp)
      refine hK _ _ hbx3.cell ?_
      clear hK K
      refine wpAnyH_fin (by kernel_rfl) ?_ _
      clear hA' hY hJs
      gi_wp2
      refine ⟨fun h => (by cases h), hR.mono ?_⟩
      rintro e W3 (⟨rfl, hJ3, hk3⟩ | ⟨rfl, hJx3, hk3⟩)
      · have hsrc4 := hk3.source HO.out hsrc3
        have hbx4 : Boxed W3 Bn 101 (.pointer (some ⟨g, 0, none⟩)) := (hk3.2 Bn (.inr (.inl rfl))).trans hbx3
        clear hcB hcg hfg hc0 hy
        gi_wp2
        go_roundw
        case rel => exact ⟨pre ++ [x], rest, _, by simp, by rw [HX.out]; simp, hsrc4, HO.out, hbx4, hJ3⟩
        case measure => have := congrArg List.length HX.out; simp at this; simp [intOf]; omega
      · have hsrc4 := hk3.source HO.out hsrc3
        clear hcB hcg hfg hc0 hy
        gi_wp2
        refine bodyPost_ret (results_none rfl _ _ _) rfl ?_
        exact ⟨⟨_, rfl⟩, .inr ⟨pre ++ [x], ⟨rest, _, by rw [HX.out]; simp, hsrc4, HO.out⟩, hJx3⟩⟩

set_option maxHeartbeats 400000 in
/-- s.taken(): the Source is boxed; the function value captures the box. -/
theorem taken_in (n : Nat) (g : Nat) (w : World) :
    CallsIn Fence.wide n Tryz.prog 183 #[.pointer (some ⟨g, 0, none⟩)] w fun e w' => e = .returned (.func (.func 184) #[] #[.pointer (some ⟨w.heap.size, 0, none⟩)]) ∧ w' = w.alloc (.cells #[.pointer (some ⟨g, 0, none⟩)] 101) := by
  refine callsIn_of_wp Tryz.func183 rfl trivial ?_ rfl
  simp only [Tryz.ntmps183, List.size_toArray, List.length_cons, List.length_nil, Nat.reduceAdd, Nat.reduceSub, Array.replicate_succ, Array.replicate_zero, List.push_toArray, List.append_toArray, List.nil_append, List.cons_append]
  gi_wp2
  go_ret
  exact ⟨rfl, rfl⟩

theorem taken_seq (n : Nat) (g Bn : Nat) (v : Value) (xs : List UInt8) (hlen : xs.length ≤ 140737488355328) (hBg : Bn ≠ g) (w : World) (hB : Boxed w Bn 101 (.pointer (some ⟨g, 0, none⟩))) (hat : SourceAt w g v xs) :
    SeqSt Fence.wide n Tryz.prog 184 #[.pointer (some ⟨Bn, 0, none⟩)] (fun (pre : List UInt8) (x : UInt8) => #[.int .i64 (pre.length : Int), B8 x]) (TakeSt g) (TakeKp g Bn v) (fun pre x => xs[pre.length]? = some x)
      (fun ys W => ys = xs ∧ LeftAt g v xs ys W) (fun pre W => LeftAt g v xs pre W) w := fun l J Jx W hW hJs hY h0 =>
  taken1_in n l g Bn v xs hlen hBg J Jx hJs hY W ((hW.block Bn hB.lt).trans hB) (hat.kept (Kept.of_below hW (Nat.le_refl _) (fun _ => False)) (fun h => h) (fun _ _ h => h)) h0

theorem TakeKp.putObj {g Bn l : Nat} {v : Value} {W : World} (hg : g < l) (hB : Bn < l) (hr : ∀ j, v.ownBlock = some j → j < l) (o : Obj) : TakeKp g Bn v W (W.putObj l o) :=
  ⟨by simp, fun k hk => World.putObj_heap_other (by
    rcases hk with rfl | rfl | hk
    · omega
    · omega
    · have := hr k hk; omega)⟩
theorem TakeKp.of_kept {T : Nat → Prop} {g Bn : Nat} {v : Value} {W W' : World} (h : Kept T W W') (hs : ∀ k, (k = g ∨ k = Bn ∨ v.ownBlock = some k) → k < W.heap.size ∧ ¬ T k) : TakeKp g Bn v W W' :=
  ⟨h.size, fun k hk => h.block k (hs k hk).1 (hs k hk).2⟩
theorem LeftAt.turn {g B : Nat} {v : Value} {xs s : List UInt8} {W W' : World} {row : Option Nat} (h : LeftAt g v xs s W) (hg : W.grownBy W' row) (hr : ∀ r, row = some r → B ≤ r ∧ ∃ o : Obj, W.heap[r]? = some o ∧ o.isCells = false) (hgB : g < B) (hv : ∀ j, v.ownBlock = some j → j < B) : LeftAt g v xs s W' := by
  obtain ⟨rest, u, hx, hs, hu⟩ := h
  exact ⟨rest, u, hx, hs.kept (Kept.of_grown hg) (fun e => by have := (hr g e).1; omega) (fun j hj e => by have := (hr j e).1; have := hv j (hu ▸ hj); omega), hu⟩
end Go.Proofs.YtljihmbmjpcfaaaGreat
namespace Go.Proofs.YtljihmbmjpcfaaaGreat
open Go.RowKit Go.Shelf
attribute [local go_sem] Oper.semAt_some

/-- Between two rounds: the number so far; no last byte yet. -/
def AnyI (w : World) (g : Nat) (pre : List UInt8) (W : World) : Prop :=
  (∃ m : Nat, Boxed W w.heap.size 76 (.int .u64 m) ∧ m < 128 ^ pre.length ∧ pre.length ≤ 9 ∧ ∀ rest, scan 0 0 (pre ++ rest) = scan pre.length m rest) ∧ Boxed W (w.heap.size + 1) 33 (.int .i64 10) ∧ Kept (fun j => j = g) w W ∧ w.heap.size + 3 ≤ W.heap.size
/-- What stands at the front of whatever begins with ys. -/
def ScanIs (ys : List UInt8) (m : Nat) (er : Int) : Prop := ∀ rest, (scan 0 0 (ys ++ rest)).1 = er ∧ (er = 0 → (scan 0 0 (ys ++ rest)).2.1 = m) ∧ (scan 0 0 (ys ++ rest)).2.2 = rest
/-- Behind the last round: the answer. -/
def AnyIx (w : World) (g : Nat) (c : Code) (pre : List UInt8) (W : World) : Prop :=
  c = .exit 0 ∧ (∃ (m : Nat) (er : Int), Boxed W w.heap.size 76 (.int .u64 m) ∧ Boxed W (w.heap.size + 1) 33 (.int .i64 er) ∧ m < 18446744073709551616 ∧ ScanIs pre m er) ∧ Kept (fun j => j = g) w W

/-- What anyNumber comes to. -/
def AnyOut (w : World) (g : Nat) (v : Value) (xs : List UInt8) (e : Ending) (W' : World) : Prop :=
  ∃ (m : Nat) (er : Int), e = .returned (.tuple #[.int .u64 m, .int .i64 er]) ∧ m < 18446744073709551616 ∧ er = (scan 0 0 xs).1 ∧ (er = 0 → m = (scan 0 0 xs).2.1) ∧ SourceRead w g v (scan 0 0 xs).2.2 W'

theorem LeftAt.drew {g : Nat} {v : Value} {xs pre : List UInt8} {W : World} (h : LeftAt g v xs pre W) : LeftAt g v xs pre W.drew :=
  let ⟨rest, u, hx, hs, hu⟩ := h; ⟨rest, u, hx, ⟨hs.box, hs.bytes, hs.row⟩, hu⟩
theorem LeftAt.read {w W : World} {g D : Nat} {v : Value} {xs pre rest : List UInt8} {o : Obj} (h : LeftAt g v xs pre W) (hx : xs = pre ++ rest) (hk : Kept (fun j => j = g) w W) (hD : w.heap.size ≤ D) (hg : g < w.heap.size) (hv : ∀ j, v.ownBlock = some j → j < w.heap.size) :
    SourceRead w g v rest (W.putObj D o) := by
  obtain ⟨rest', u, hx', hs, hu⟩ := h
  obtain rfl : rest = rest' := by rw [hx] at hx'; exact List.append_cancel_left hx'
  exact ⟨u, hs.kept (Kept.of_grown (grownBy_putObj' W D o)) (fun e => by cases e; omega) (fun j hj e => by cases e; have := hv D (hu ▸ hj); omega), hk.putObj hD o, hu⟩

set_option maxRecDepth 100000 in
set_option maxHeartbeats 1000000 in
theorem anyNumber_in (w : World) (g : Nat) (v : Value) (xs : List UInt8) (hat : SourceAt w g v xs) (hlen : xs.length ≤ 140737488355328) :
    CallsIn Fence.wide 3 Tryz.prog 175 #[.pointer (some ⟨g, 0, none⟩)] w (AnyOut w g v xs) := by
  have hro : Fence.wide.round = none := rfl
  refine callsIn_of_wp_marks Tryz.func175 rfl trivial ?_ hro
  simp only [Tryz.ntmps175, List.size_toArray, List.length_cons, List.length_nil, Nat.reduceAdd, Nat.reduceSub, Array.replicate_succ, Array.replicate_zero, List.push_toArray, List.append_toArray, List.nil_append, List.cons_append]
  gi_wp2
  refine wpIn_scope_wide ?_
  gi_wp2
  try refine wpIn_label_wide ?_
  gi_wp2_with (refine ⟨trivial, ?_⟩; gi_at_call 183; refine (taken_in 2 _ _).mono ?_; rintro e w' ⟨rfl, rfl⟩)
  have bN : Boxed (((w.alloc (.cells #[.int .u64 0] 76)).alloc (.cells #[.int .i64 10] 33)).alloc (.cells #[.pointer (some ⟨g, 0, none⟩)] 101)) w.heap.size 76 (.int .u64 0) := ((Boxed.new w _ _).alloc _).alloc _
  have bE : Boxed (((w.alloc (.cells #[.int .u64 0] 76)).alloc (.cells #[.int .i64 10] 33)).alloc (.cells #[.pointer (some ⟨g, 0, none⟩)] 101)) (w.heap.size + 1) 33 (.int .i64 10) := by
    have := (Boxed.new (w.alloc (.cells #[.int .u64 0] 76)) 33 (.int .i64 10)).alloc (.cells #[.pointer (some ⟨g, 0, none⟩)] 101)
    rwa [World.size_alloc] at this
  have bP : Boxed (((w.alloc (.cells #[.int .u64 0] 76)).alloc (.cells #[.int .i64 10] 33)).alloc (.cells #[.pointer (some ⟨g, 0, none⟩)] 101)) (w.heap.size + 1 + 1) 101 (.pointer (some ⟨g, 0, none⟩)) := by
    have := Boxed.new ((w.alloc (.cells #[.int .u64 0] 76)).alloc (.cells #[.int .i64 10] 33)) 101 (.pointer (some ⟨g, 0, none⟩))
    rwa [World.size_alloc, World.size_alloc] at this
  have hK0 : Kept (fun j => j = g) w (((w.alloc (.cells #[.int .u64 0] 76)).alloc (.cells #[.int .i64 10] 33)).alloc (.cells #[.pointer (some ⟨g, 0, none⟩)] 101)) := (((Kept.refl _ _).alloc _).alloc _).alloc _
  have hs0 : (((w.alloc (.cells #[.int .u64 0] 76)).alloc (.cells #[.int .i64 10] 33)).alloc (.cells #[.pointer (some ⟨g, 0, none⟩)] 101)).heap.size = w.heap.size + 3 := by simp
  have hat3 : SourceAt (((w.alloc (.cells #[.int .u64 0] 76)).alloc (.cells #[.int .i64 10] 33)).alloc (.cells #[.pointer (some ⟨g, 0, none⟩)] 101)) g v xs :=
    hat.kept (T := fun _ => False) ((((Kept.refl _ _).alloc _).alloc _).alloc _) (fun h => h) (fun _ _ h => h)
  have hg := hat.box.lt
  generalize ((w.alloc (.cells #[.int .u64 0] 76)).alloc (.cells #[.int .i64 10] 33)).alloc (.cells #[.pointer (some ⟨g, 0, none⟩)] 101) = w3 at *
  have hs3 : w.heap.size + 3 ≤ w3.heap.size := by omega
  clear hs0
  have hrowB : ∀ j, v.ownBlock = some j → j < w3.heap.size := fun j hj => (hat3.row j hj).1
  refine wpIn_rangeFunc_st hro (by omega) (gf := 184) (lb := #[.pointer (some ⟨w.heap.size + 1 + 1, 0, none⟩)]) rfl trivial (enters_of Tryz.func184 (by kernel_rfl) rfl)
    (taken_seq (3 - 1) g (w.heap.size + 1 + 1) v xs hlen (by omega) w3 bP hat3) (fun h k => ⟨Nat.le_trans h.1 k.1, fun j hj => (k.2 j hj).trans (h.2 j hj)⟩) (fun W l o o' hl ho hc => TakeKp.putObj (by omega) (by omega) (fun j hj => Nat.lt_of_lt_of_le (hrowB j hj) hl) _) (fun A B ⟨u, hu⟩ => by rw [hu]; exact (KeepsOthers.setCell _ _ _).trans (KeepsOthers.drew _)) (fun _ _ => rfl)
    (fun s A B row hs hgr hr => ⟨hs.1, hs.2.turn hgr hr (by omega) hrowB⟩) (fun s A B row hs hgr hr => hs.turn hgr hr (by omega) hrowB)
    (AnyI w g)
    (AnyIx w g)
    (fun s A B row hs hgr hr => by
      obtain ⟨⟨m, h1, h2⟩, h3, h4, h5⟩ := hs
      exact ⟨⟨m, boxed_turn h1 hgr hr, h2⟩, boxed_turn h3 hgr hr, h4.grown hgr (fun j e hj => by have := (hr j e).1; omega), Nat.le_trans h5 hgr.size⟩)
    (fun c s A B row hs hgr hr => by
      obtain ⟨h0, ⟨m, er, h1, h2, h3⟩, h4⟩ := hs
      exact ⟨h0, ⟨m, er, boxed_turn h1 hgr hr, boxed_turn h2 hgr hr, h3⟩, h4.grown hgr (fun j e hj => by have := (hr j e).1; omega)⟩)
    (fun s A B hs hst => by
      obtain ⟨u, rfl⟩ := hst
      obtain ⟨⟨m, h1, h2⟩, h3, h4, h5⟩ := hs
      exact ⟨⟨m, h1.other (by omega) u, h2⟩, h3.other (by omega) u, (h4.setCell (p := ⟨g, 0, none⟩) (fun _ => rfl) u).drew, by simpa [World.setCell] using h5⟩)
    ⟨⟨0, bN, by simp, by simp, fun rest => rfl⟩, bE, hK0, hs3⟩
    (fun pre x => { tmps := #[.pointer (some ⟨g, 0, none⟩), undef, .int .u64 0, .int .i64 0, .pointer (some ⟨w.heap.size, 0, none⟩), .pointer (some ⟨w.heap.size + 1, 0, none⟩), .int .i64 (pre.length : Int), B8 x, .pointer (some ⟨g, 0, none⟩), .func (.func 184) #[] #[.pointer (some ⟨w.heap.size + 1 + 1, 0, none⟩)], .int .i64 (pre.length : Int), B8 x,
      undef, undef, undef, undef, undef, undef, undef, undef, undef, undef, undef, undef, undef, undef, undef, undef, undef, undef, undef, undef, undef, undef, undef, undef, undef, undef], defers := [] }) ?assign ?body ?done ?stop
  case assign =>
    intro l pre x W K hK
    rw [fold2]
    gi_wp2
    exact hK
  case body =>
    rintro l pre x W ⟨⟨m, hn, hm, hp9, hsc⟩, he, hkept, hW3⟩ hnx
    refine wpIn_block (wpIn_seq ?_)
    have hx := x.toNat_lt
    have hp0 : (0 : Int) ≤ 7 * (pre.length : Int) := by omega
    have hp64 : 7 * (pre.length : Int) ≤ 64 := by omega
    obtain ⟨y, hyv⟩ : ∃ y : Nat, y = (x.toNat % 128 * 128 ^ pre.length) % 18446744073709551616 := ⟨_, rfl⟩
    have hy64 : y < 18446744073709551616 := by rw [hyv]; exact Nat.mod_lt _ (by omega)
    have e1 : ((x.toNat : Int)).tmod 128 = (x.toNat : Int) % 128 := Int.tmod_eq_emod_of_nonneg (by omega)
    have e2 : IntKind.u64.wrap ((x.toNat : Int) % 128) = (x.toNat : Int) % 128 := IntWalk.u64_in _ (by omega)
    have e3 : IntKind.i64.wrap (7 * (pre.length : Int)) = 7 * (pre.length : Int) := IntWalk.i64_in _ (by omega)
    have e4 : IntKind.u64.wrap ((x.toNat : Int) % 128 * 2 ^ (7 * (pre.length : Int)).toNat) = (y : Int) := by
      rw [IntKind.wrap_u64, hyv, show (7 * (pre.length : Int)).toNat = 7 * pre.length by omega, show (128 : Nat) ^ pre.length = 2 ^ (7 * pre.length) by rw [Nat.pow_mul]]
      simp
    have hm64 : m < 18446744073709551616 := by have := pow9 hp9; omega
    have e5 : bits .or .u64 (m : Int) (y : Int) = ((m ||| y : Nat) : Int) := (bits_nat .u64 64 (by decide) (fun n h0 h1 => IntWalk.u64_in n (by omega)) m y (by omega) (by omega)).2
    have hor64 : m ||| y < 18446744073709551616 := by have := Nat.or_lt_two_pow (n := 64) (x := m) (y := y) (by omega) (by omega); omega
    have hstep : pre.length < 9 ∨ x.toNat ≤ 1 → m ||| y = m + x.toNat % 128 * 128 ^ pre.length := fun h => by rw [hyv]; exact or_step hm hp9 h
    have HStep := Lib.hid hstep
    have HSC := Lib.hid hsc
    have hcn := hn.cell
    have hfn := hn.frozen
    generalize hm' : m ||| y = m' at *
    clear hstep hyv hm' hsc
    refine wpIn_round_held (fun W1 => True) (by kernel_rfl) (by kernel_rfl) ?_
    refine wpAnyH_take (i := 1) (v := B8 x) rfl (by kernel_rfl) (by kernel_rfl) (by kernel_rfl) (fun _ _ _ h => h) (.inl ⟨rfl, fun W1 hW1 => by go_simp⟩) trivial ?_
    refine wpAnyH_take (i := 2) (v := .int .u8 ((x.toNat : Int) % 128)) rfl (by kernel_rfl) (by kernel_rfl) (by kernel_rfl) (fun _ _ _ h => h) (.inl ⟨rfl, fun W1 hW1 => by go_simp⟩) trivial ?_
    refine wpAnyH_take (i := 3) (v := .int .u64 ((x.toNat : Int) % 128)) rfl (by kernel_rfl) (by kernel_rfl) (by kernel_rfl) (fun _ _ _ h => h) (.inl ⟨rfl, fun W1 hW1 => by go_simp⟩) trivial ?_
    refine wpAnyH_take (i := 4) (v := .int .i64 (pre.length : Int)) rfl (by kernel_rfl) (by kernel_rfl) (by kernel_rfl) (fun _ _ _ h => h) (.inl ⟨rfl, fun W1 hW1 => by go_simp⟩) trivial ?_
    refine wpAnyH_take (i := 5) (v := .int .i64 (7 * (pre.length : Int))) rfl (by kernel_rfl) (by kernel_rfl) (by kernel_rfl) (fun _ _ _ h => h) (.inl ⟨rfl, fun W1 hW1 => by go_simp⟩) trivial ?_
    refine wpAnyH_take (i := 6) (v := .int .u64 y) rfl (by kernel_rfl) (by kernel_rfl) (by kernel_rfl) (fun _ _ _ h => h) (.inl ⟨rfl, fun W1 hW1 => by go_simp⟩) trivial ?_
    refine wpAnyH_one (i := 0) (by kernel_rfl) rfl rfl (fun K hK => ?_)
    unfold Oper.wp
    go_simp
    refine hK _ _ trivial ?_
    clear hK K
    refine wpAnyH_take (i := 7) (v := .int .u64 m') rfl (by kernel_rfl) (by kernel_rfl) (by kernel_rfl) (fun _ _ _ h => h) (.inl ⟨rfl, fun W1 hW1 => by go_simp⟩) trivial ?_
    refine wpAnyH_one (i := 8) (by kernel_rfl) rfl rfl (fun K hK => ?_)
    unfold Oper.wp
    go_simp
    refine hK _ _ trivial ?_
    clear hK K
    refine wpAnyH_fin (by kernel_rfl) ?_ _
    have hn2 := hn.set (.int .u64 m')
    have he2 := he.other (B' := w.heap.size) (by omega) (.int .u64 m')
    have hkept2 := hkept.setCell (p := ⟨w.heap.size, 0, none⟩) (fun h => absurd h (Nat.lt_irrefl _)) (.int .u64 m')
    have hko2 : KeepsOthers W ((W.setCell ⟨w.heap.size, 0, none⟩ (.int .u64 m')).drew) := (KeepsOthers.setCell _ _ _).trans (KeepsOthers.drew _)
    have hce2 := he2.cell
    have hfe2 := he2.frozen
    clear e1 e2 e3 e4 e5
    have hkp : ∀ {W' : World}, Kept (fun j => j = w.heap.size ∨ j = w.heap.size + 1) W W' → TakeKp g (w.heap.size + 1 + 1) v W W' := fun h => TakeKp.of_kept h (fun k hk => by
      rcases hk with rfl | rfl | hk
      · omega
      · omega
      · have := (hat.row k hk).1; omega)
    have hkw : Kept (fun j => j = w.heap.size ∨ j = w.heap.size + 1) W (W.setCell ⟨w.heap.size, 0, none⟩ (.int .u64 m')).drew := ((Kept.refl _ _).setCell (p := ⟨w.heap.size, 0, none⟩) (fun _ => .inl rfl) _).drew
    have hleave : ∀ (er : Int), ScanIs (pre ++ [x]) m' er →
        KeepsFrom w3.heap.size W ((W.setCell ⟨w.heap.size, 0, none⟩ (.int .u64 m')).setCell ⟨w.heap.size + 1, 0, none⟩ (.int .i64 er)).drew ∧ TakeKp g (w.heap.size + 1 + 1) v W ((W.setCell ⟨w.heap.size, 0, none⟩ (.int .u64 m')).setCell ⟨w.heap.size + 1, 0, none⟩ (.int .i64 er)).drew ∧
          AnyIx w g (.exit 0) (pre ++ [x]) ((W.setCell ⟨w.heap.size, 0, none⟩ (.int .u64 m')).setCell ⟨w.heap.size + 1, 0, none⟩ (.int .i64 er)).drew := fun er h =>
      ⟨((KeepsOthers.setCell _ _ _).trans ((KeepsOthers.setCell _ _ _).trans (KeepsOthers.drew _))).from _, hkp ((((Kept.refl _ _).setCell (p := ⟨w.heap.size, 0, none⟩) (fun _ => .inl rfl) _).setCell (p := ⟨w.heap.size + 1, 0, none⟩) (fun _ => .inr rfl) _).drew), rfl,
        ⟨m', er, hn2.other (by omega) _, he2.set _, hor64, h⟩, (hkept2.setCell (p := ⟨w.heap.size + 1, 0, none⟩) (fun h => absurd h (by simp)) _).drew⟩
    have hform : (pre.length = 9 ∧ 1 < x.toNat) ∨ (0 < pre.length ∧ x.toNat = 0) → ScanIs (pre ++ [x]) m' 11 := fun h rest => by
      rw [List.append_assoc, List.singleton_append, HSC.out, scan_form rest h]
      exact ⟨rfl, (fun h => absurd h (by decide)), rfl⟩
    have hlast : ¬ ((pre.length = 9 ∧ 1 < x.toNat) ∨ (0 < pre.length ∧ x.toNat = 0)) → x.toNat < 128 → ScanIs (pre ++ [x]) m' 0 := fun h h' rest => by
      rw [List.append_assoc, List.singleton_append, HSC.out, scan_last rest h h']
      refine ⟨rfl, fun _ => ?_, rfl⟩
      rw [HStep.out (by omega), Nat.mod_eq_of_lt h']
    have hmore : ¬ ((pre.length = 9 ∧ 1 < x.toNat) ∨ (0 < pre.length ∧ x.toNat = 0)) → ¬ x.toNat < 128 → KeepsFrom w3.heap.size W (W.setCell ⟨w.heap.size, 0, none⟩ (.int .u64 m')).drew ∧ TakeKp g (w.heap.size + 1 + 1) v W (W.setCell ⟨w.heap.size, 0, none⟩ (.int .u64 m')).drew ∧ AnyI w g (pre ++ [x]) (W.setCell ⟨w.heap.size, 0, none⟩ (.int .u64 m')).drew := fun h h' =>
      ⟨hko2.from _, hkp hkw, ⟨m', hn2, by rw [HStep.out (by omega)]; simpa using pow_step hm, by simp; omega, fun rest => by
        rw [List.append_assoc, List.singleton_append, HSC.out, scan_more rest h h', HStep.out (by omega)]; simp⟩, he2, hkept2.drew, by simpa [World.setCell] using hW3⟩
    have HF := Lib.hid hform
    have HL := Lib.hid hlast
    have HM := Lib.hid hmore
    have HE := Lib.hid hleave
    clear hform hlast hmore hleave hkp hkw
    change Code.wpIn _ _ _ _ _ _ _
    clear hp0 hp64
    gi_wp2
    · exact HE.out 11 (HF.out (by omega))
    · rename_i h1 h2 h3; have h4 : (x.toNat : Int) = 0 := by simpa using h3
      exact HE.out 11 (HF.out (by omega))
    · rename_i h1 h2 h3 h4; have h5 : ¬ (x.toNat : Int) = 0 := by simpa using h3
      exact HE.out 0 (HL.out (by omega) (by omega))
    · rename_i h1 h2 h3; have h4 : (x.toNat : Int) = 0 := by simpa using h3
      exact HE.out 11 (HF.out (by omega))
    · rename_i h1 h2 h3 h4; have h5 : ¬ (x.toNat : Int) = 0 := by simpa using h3
      exact HE.out 0 (HL.out (by omega) (by omega))
    · rename_i h1 h2 h3 h4; have h5 : ¬ (x.toNat : Int) = 0 := by simpa using h3
      exact HM.out (by omega) (by omega)
    · exact HE.out 0 (HL.out (by omega) (by omega))
    · exact HM.out (by omega) (by omega)
  case done =>
    rintro D ys W hD ⟨rfl, hleft⟩ ⟨⟨m, hn, hm, hp9, hsc⟩, he, hkept, hW3⟩ hK
    have hcn := hn.cell
    have hce := he.cell
    gi_wp2
    refine wpIn_wide_held (fun W1 => W1.cell? ⟨w.heap.size, 0, none⟩ = some (.int .u64 m) ∧ W1.cell? ⟨w.heap.size + 1, 0, none⟩ = some (.int .i64 10)) (by kernel_rfl) ?_
    refine wpAnyH_take (i := 0) (v := .int .u64 m) rfl (by kernel_rfl) (by kernel_rfl) (by kernel_rfl) (fun _ _ _ h => h) (.inl ⟨rfl, fun W1 ⟨hW1, hW2⟩ => by go_simp⟩) ⟨hcn, hce⟩ ?_
    refine wpAnyH_take (i := 1) (v := .int .i64 10) rfl (by kernel_rfl) (by kernel_rfl) (by kernel_rfl) (fun _ _ _ h => h) (.inl ⟨rfl, fun W1 ⟨hW1, hW2⟩ => by go_simp⟩) ⟨hcn, hce⟩ ?_
    refine wpAnyH_take (i := 2) (v := .int .u64 m) rfl (by kernel_rfl) (by kernel_rfl) (by kernel_rfl) (fun _ _ _ h => h) (.inl ⟨rfl, fun W1 ⟨hW1, hW2⟩ => by go_simp⟩) ⟨hcn, hce⟩ ?_
    refine wpAnyH_take (i := 3) (v := .int .i64 10) rfl (by kernel_rfl) (by kernel_rfl) (by kernel_rfl) (fun _ _ _ h => h) (.inl ⟨rfl, fun W1 ⟨hW1, hW2⟩ => by go_simp⟩) ⟨hcn, hce⟩ ?_
    refine wpAnyH_fin (by kernel_rfl) ?_ _
    have HSC := Lib.hid hsc
    clear hsc
    gi_wp2
    have hK' : W.drew.heap[D]? = some (.deferred (some [])) := hK
    refine ⟨by simp, .inl ⟨_, _, rfl, run_takeDeferred hK', ?_⟩⟩
    have hv := fun j hj => (hat.row j hj).1
    have hs2 : scan 0 0 ys = (10, 0, []) := by have := HSC.out []; rwa [List.append_nil] at this
    exact ⟨_, results_tmp2 rfl _ _ _, m, 10, rfl, by have := pow9 hp9; omega, by rw [hs2], fun h => absurd h (by decide), by rw [hs2]; exact LeftAt.read (W := W.drew) (xs := ys) (pre := ys) (rest := []) hleft.drew (by simp) hkept.drew (by omega) hg hv⟩
  case stop =>
    rintro D c pre W hD hleft ⟨rfl, ⟨m, er, hn, he, hm, hsc⟩, hkept⟩ hK
    have hcn := hn.cell
    have hce := he.cell
    gi_wp2
    refine wpIn_wide_held (fun W1 => W1.cell? ⟨w.heap.size, 0, none⟩ = some (.int .u64 m) ∧ W1.cell? ⟨w.heap.size + 1, 0, none⟩ = some (.int .i64 er)) (by kernel_rfl) ?_
    refine wpAnyH_take (i := 0) (v := .int .u64 m) rfl (by kernel_rfl) (by kernel_rfl) (by kernel_rfl) (fun _ _ _ h => h) (.inl ⟨rfl, fun W1 ⟨hW1, hW2⟩ => by go_simp⟩) ⟨hcn, hce⟩ ?_
    refine wpAnyH_take (i := 1) (v := .int .i64 er) rfl (by kernel_rfl) (by kernel_rfl) (by kernel_rfl) (fun _ _ _ h => h) (.inl ⟨rfl, fun W1 ⟨hW1, hW2⟩ => by go_simp⟩) ⟨hcn, hce⟩ ?_
    refine wpAnyH_take (i := 2) (v := .int .u64 m) rfl (by kernel_rfl) (by kernel_rfl) (by kernel_rfl) (fun _ _ _ h => h) (.inl ⟨rfl, fun W1 ⟨hW1, hW2⟩ => by go_simp⟩) ⟨hcn, hce⟩ ?_
    refine wpAnyH_take (i := 3) (v := .int .i64 er) rfl (by kernel_rfl) (by kernel_rfl) (by kernel_rfl) (fun _ _ _ h => h) (.inl ⟨rfl, fun W1 ⟨hW1, hW2⟩ => by go_simp⟩) ⟨hcn, hce⟩ ?_
    refine wpAnyH_fin (by kernel_rfl) ?_ _
    gi_wp2
    have hK' : W.drew.heap[D]? = some (.deferred (some [])) := hK
    refine ⟨by simp, .inl ⟨_, _, rfl, run_takeDeferred hK', ?_⟩⟩
    have hv := fun j hj => (hat.row j hj).1
    obtain ⟨rest, u, hx, _, _⟩ := id hleft
    obtain ⟨h1, h2, h3⟩ := hsc rest
    rw [← hx] at h1 h2 h3
    exact ⟨_, results_tmp2 rfl _ _ _, m, er, rfl, hm, h1.symm, fun h => (h2 h).symm, by rw [h3]; exact LeftAt.read (W := W.drew) hleft.drew hx hkept.drew (by omega) hg hv⟩

/-- anyNumber, plainly. -/
theorem anyNumber_any (w : World) (g : Nat) (v : Value) (xs : List UInt8) (hat : SourceAt w g v xs) (hlen : xs.length ≤ 140737488355328) :
    Calls Tryz.prog 175 #[.pointer (some ⟨g, 0, none⟩)] w (AnyOut w g v xs) := callsIn_wide.1 (anyNumber_in w g v xs hat hlen)

/-- What number tells: the error, the number; and what is left. -/
def numRes (most : Nat) (xs : List UInt8) : Int × Nat × List UInt8 :=
  if (scan 0 0 xs).1 ≠ 0 then ((scan 0 0 xs).1, 0, (scan 0 0 xs).2.2) else if most < (scan 0 0 xs).2.1 then (12, 0, (scan 0 0 xs).2.2) else (0, (scan 0 0 xs).2.1, (scan 0 0 xs).2.2)

/-- What number comes to. -/
def NumOut (w : World) (g : Nat) (v : Value) (r : Int × Nat × List UInt8) (e : Ending) (W' : World) : Prop :=
  e = .returned (.tuple #[.int .u64 r.2.1, .int .i64 r.1]) ∧ SourceRead w g v r.2.2 W'

set_option maxHeartbeats 400000 in
theorem srcnumber_any (w : World) (g : Nat) (v : Value) (xs : List UInt8) (hat : SourceAt w g v xs) (hlen : xs.length ≤ 140737488355328) (most : Nat) :
    Calls Tryz.prog 149 #[.pointer (some ⟨g, 0, none⟩), .int .u64 most] w (NumOut w g v (numRes most xs)) := by
  go_enter Tryz.func149, Tryz.ntmps149
  go_wp2_with fail
  refine (anyNumber_any w g v xs hat hlen).mono ?_
  rintro e w1 ⟨m, er, rfl, hm, her, hmv, hrd⟩
  have HE := Lib.hid her
  have HM := Lib.hid hmv
  clear her hmv
  by_cases h0 : er = 0
  · subst h0
    have hm0 := HM.out rfl
    by_cases h1 : most < m
    · go_wp2
      go_ret2
      unfold NumOut numRes
      rw [if_neg (by rw [← HE.out]; simp), ← hm0, if_pos h1]
      exact ⟨rfl, hrd⟩
    · go_wp2
      go_ret2
      unfold NumOut numRes
      rw [if_neg (by rw [← HE.out]; simp), ← hm0, if_neg h1]
      exact ⟨rfl, hrd⟩
  · have hne : (er != 0) = true := by simp [h0]
    go_wp2
    go_ret2
    unfold NumOut numRes
    rw [if_pos (by rw [← HE.out]; exact h0), ← HE.out]
    exact ⟨rfl, hrd⟩
end Go.Proofs.YtljihmbmjpcfaaaGreat
