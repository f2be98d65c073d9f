/- A Sink: Number, Raw, Bytes, All. A Sink: Raw, Bytes, All; and none. -/
import Derived.Test.YtljihmbmjpcfaaaGreatLebSrc
import Derived.Test.YtljihmbmjpcfaaaGreatDrawnV
namespace Go.Proofs.YtljihmbmjpcfaaaGreat
open Go.RowKit Go.Shelf
attribute [local go_sem] Oper.semAt_some


/-- A Sink at g has written xs. -/
structure WrSinkAt (W : World) (n₀ g : Nat) (v : Value) (xs : List UInt8) : Prop where
  box : Boxed W g 96 v
  row : W.ownsRow n₀ 5 1 v xs.length (xs.map B8)

/-- What a call that writes to the Sink leaves: it has written more; nothing else that was there has turned. -/
def WrSinkWrote (w : World) (n₀ g : Nat) (v : Value) (xs : List UInt8) (W : World) : Prop :=
  ∃ v', WrSinkAt W n₀ g v' xs ∧ Kept (fun j => j = g ∨ v.ownBlock = some j) w W ∧ (v'.ownBlock = v.ownBlock ∨ ∀ j, v'.ownBlock = some j → w.heap.size ≤ j)

theorem WrSinkWrote.refl {w : World} {n₀ g : Nat} {v : Value} {xs : List UInt8} (h : WrSinkAt w n₀ g v xs) : WrSinkWrote w n₀ g v xs w := ⟨v, h, Kept.refl _ _, .inl rfl⟩

theorem WrSinkAt.row_ne {W : World} {n₀ g : Nat} {v : Value} {xs : List UInt8} (h : WrSinkAt W n₀ g v xs) : v.ownBlock ≠ some g := (h.box.not_row (by decide) h.row).symm
theorem WrSinkAt.kept {T : Nat → Prop} {W W' : World} {n₀ g : Nat} {v : Value} {xs : List UInt8} (h : WrSinkAt W n₀ g v xs) (k : Kept T W W') (h1 : ¬ T g) (h2 : ∀ j, v.ownBlock = some j → ¬ T j) : WrSinkAt W' n₀ g v xs :=
  ⟨k.boxed h.box h1, k.owns h.row h2⟩

/-- A turn of blocks that are no cells, from w's size on, and new blocks. -/
theorem WrSinkWrote.turned {T : Nat → Prop} {w W W' : World} {n₀ g : Nat} {v : Value} {xs : List UInt8} (h : WrSinkWrote w n₀ g v xs W) (k : Kept T W W') (hT : ∀ j, T j → w.heap.size ≤ j)
    (hg : ¬ T g) (hr : ∀ j o, T j → W.heap[j]? = some o → o.isCells = false) : WrSinkWrote w n₀ g v xs W' := by
  obtain ⟨v', h1, h2, h3⟩ := h
  refine ⟨v', h1.kept k hg (fun j hj t => ?_), h2.trans k (fun j hj t => absurd (hT j t) (by omega)), h3⟩
  rcases h1.row.2 with ⟨rfl, _⟩ | ⟨g', cap, cur, rfl, _, hgb, _⟩
  · simp [Value.ownBlock] at hj
  · obtain rfl : g' = j := by simpa [Value.ownBlock] using hj
    have := hr g' _ t hgb
    cases this

/-- Behind an append onto the Sink's row and the store of the new slice. -/
theorem WrSinkWrote.appended {w W W1 : World} {n₀ g : Nat} {v v' v'' : Value} {xs ys : List UInt8} {tmp : Obj} (hkept : Kept (fun j => j = g ∨ v.ownBlock = some j) w W) (hat : WrSinkAt W n₀ g v' xs)
    (h3 : v'.ownBlock = v.ownBlock ∨ ∀ j, v'.ownBlock = some j → w.heap.size ≤ j)
    (hrow : W1.ownsRow n₀ 5 1 v'' ys.length (ys.map B8)) (hgrow : (W.alloc tmp).grownBy W1 v'.ownBlock) (hwhere : v''.ownBlock = v'.ownBlock ∨ v''.ownBlock = some (W.heap.size + 1)) :
    Boxed W1 g 96 v' ∧ WrSinkWrote w n₀ g v ys (W1.setCell ⟨g, 0, none⟩ v'') ∧ KeepsOthers W (W1.setCell ⟨g, 0, none⟩ v'') := by
  have hb1 : Boxed W1 g 96 v' := (hat.box.alloc tmp).kept hgrow (hat.row_ne.symm)
  have hk1 : Kept (fun j => j = g ∨ v.ownBlock = some j) w W1 := (hkept.alloc tmp).grown hgrow (fun j e hj => by
    rcases h3 with h3 | h3
    · exact .inr (h3 ▸ e)
    · exact absurd (h3 j e) (by omega))
  refine ⟨hb1, ⟨v'', ⟨hb1.set v'', hrow.kept (grownBy_setCell' W1 g v'') (.inr (hb1.not_row (by decide) hrow).symm)⟩, hk1.setCell (p := ⟨g, 0, none⟩) (fun _ => .inl rfl) _, ?_⟩, ?_⟩
  · rcases hwhere with e | e
    · rw [e]; exact h3
    · refine .inr (fun j hj => ?_)
      rw [e] at hj
      have := hkept.size
      cases hj; omega
  · refine ((KeepsOthers.alloc W tmp).trans (KeepsOthers.of_grownBy hgrow fun j o ej hj => ?_)).trans (KeepsOthers.setCell _ _ _)
    rcases (hat.row.alloc tmp).2 with ⟨rfl, _⟩ | ⟨g', cap, cur, rfl, _, hgb, _⟩
    · simp [Value.ownBlock] at ej
    · obtain rfl : g' = j := by simpa [Value.ownBlock] using ej
      rw [hgb] at hj; cases hj; rfl

set_option maxRecDepth 100000 in
set_option maxHeartbeats 1000000 in
theorem WrSinkNumber_in (g k : Nat) (hk : k < 18446744073709551616) (w : World) (v : Value) (xs : List UInt8) (n₀ : Nat) (hn₀ : n₀ ≤ w.heap.size)
    (hat : WrSinkAt w n₀ g v xs) (hlen : xs.length ≤ 1000000000) :
    CallsIn Fence.wide 3 Tryz.prog 79 #[.pointer (some ⟨g, 0, none⟩), .int .u64 k] w fun e W' => e = .returned (.pointer (some ⟨g, 0, none⟩)) ∧ WrSinkWrote w n₀ g v (xs ++ lebB k) W' := by
  have hro : Fence.wide.round = none := rfl
  have h5 : Fence.wide.fn 146 := trivial
  have hl10 := lebB_u64 hk
  have hglt := hat.box.lt
  obtain ⟨i0, hi, hz0, hz1, hz2⟩ := info_parts infoU8
  refine callsIn_of_wp_marks Tryz.func79 rfl trivial ?_ hro
  simp only [Tryz.ntmps79, List.size_toArray, List.length_cons, List.length_nil, Nat.reduceAdd, Nat.reduceSub, Array.replicate_succ, Array.replicate_zero, List.push_toArray, List.append_toArray, List.nil_append, List.cons_append]
  gi_wp2_with (refine ⟨trivial, ?_⟩; gi_at_call 111; refine (bytesOf_in Fence.wide 2 trivial hro _ _).mono ?_; rintro e w' ⟨rfl, rfl⟩)
  have bO := Boxed.new w 155 (.pointer (some ⟨g, 0, none⟩))
  have bN := Boxed.new (w.alloc (.cells #[.pointer (some ⟨g, 0, none⟩)] 155)) 76 (.int .u64 k)
  rw [World.size_alloc] at bN
  have hK0 : Kept (fun j => j = g ∨ v.ownBlock = some j) w ((w.alloc (.cells #[.pointer (some ⟨g, 0, none⟩)] 155)).alloc (.cells #[.int .u64 k] 76)) := ((Kept.refl _ _).alloc _).alloc _
  have hS0 : WrSinkWrote w n₀ g v (xs ++ []) ((w.alloc (.cells #[.pointer (some ⟨g, 0, none⟩)] 155)).alloc (.cells #[.int .u64 k] 76)) :=
    (WrSinkWrote.refl (by simpa using hat)).turned (T := fun _ => False) (((Kept.refl _ _).alloc _).alloc _) (fun _ h => h.elim) (fun h => h) (fun _ _ h => h.elim)
  refine wpIn_rangeFunc_ownG hro (by omega) (gf := 146) (lb := #[.pointer (some ⟨w.heap.size + 1, 0, none⟩)]) rfl h5 (enters_of Tryz.func146 (by kernel_rfl) rfl)
    (bytesOf_stops Fence.wide (3 - 1) h5 hro (by omega) (w.heap.size + 1) k hk _ (by simp) bN.cell) (fun _ _ => trivial) (fun _ _ _ _ _ _ _ _ => trivial) (Below.refl _ _) (fun _ => rfl)
    (fun pre W => Boxed W w.heap.size 155 (.pointer (some ⟨g, 0, none⟩)) ∧ WrSinkWrote w n₀ g v (xs ++ pre) W)
    (fun _ _ _ => False)
    (OwnFrom.and (Own.from (boxed_own w.heap.size 155 (fun _ : List UInt8 => Value.pointer (some ⟨g, 0, none⟩))) _) (fun s A B row hs hg hr => hs.turned (Kept.of_grown hg) (fun j e => by have := (hr j e).1; simp at this; omega) (fun e => by have := (hr g e).1; simp at this; omega) (fun j o e ho => by obtain ⟨_, o', ho', hc⟩ := hr j e; rw [ho] at ho'; cases ho'; exact hc)))
    (fun _ _ _ _ _ hs _ _ => hs)
    ⟨bO.alloc _, hS0⟩
    (fun x => { tmps := #[.pointer (some ⟨g, 0, none⟩), .int .u64 k, .pointer (some ⟨w.heap.size, 0, none⟩), undef, .pointer none, B8 x, .pointer (some ⟨g, 0, none⟩), .bool false, .int .u64 k, .func (.func 146) #[] #[.pointer (some ⟨w.heap.size + 1, 0, none⟩)], B8 x, undef, undef, undef, undef, undef, undef, undef, undef, undef, undef, undef], defers := [] }) ?assign ?body ?done ?stop
  case assign =>
    intro l x W K hK
    rw [fold1]
    gi_wp2
    exact hK
  case body =>
    rintro l pre x W ⟨hv, hS⟩ hlt
    obtain ⟨v', hat', hkept, hwhere⟩ := hS
    refine wpIn_block ?_
    refine wpIn_round_held (fun W1 => W1.cell? ⟨w.heap.size, 0, none⟩ = some (.pointer (some ⟨g, 0, none⟩))) (by kernel_rfl) (by kernel_rfl) ?_
    refine wpAnyH_take (i := 0) (v := .pointer (some ⟨g, 0, none⟩)) rfl (by kernel_rfl) (by kernel_rfl) (by kernel_rfl) (fun _ _ _ h => h) (.inl ⟨rfl, fun W1 hW1 => by go_simp⟩) hv.cell ?_
    refine wpAnyH_take (i := 1) (v := .pointer (some ⟨g, 0, none⟩)) rfl (by kernel_rfl) (by kernel_rfl) (by kernel_rfl) (fun _ _ _ h => h) (.inl ⟨rfl, fun W1 hW1 => by go_simp⟩) hv.cell ?_
    refine wpAnyH_take (i := 2) (v := .pointer (some ⟨g, 0, none⟩)) rfl (by kernel_rfl) (by kernel_rfl) (by kernel_rfl) (fun _ _ _ h => h) (.inl ⟨rfl, fun W1 hW1 => by go_simp⟩) hv.cell ?_
    refine wpAnyH_take (i := 3) (v := .pointer (some ⟨g, 0, none⟩)) rfl (by kernel_rfl) (by kernel_rfl) (by kernel_rfl) (fun _ _ _ h => h) (.inl ⟨rfl, fun W1 hW1 => by go_simp⟩) hv.cell ?_
    refine wpAnyH_take (i := 5) (v := B8 x) rfl (by kernel_rfl) (by kernel_rfl) (by kernel_rfl) (fun _ _ _ h => h) (.inl ⟨rfl, fun W1 hW1 => by go_simp⟩) hv.cell ?_
    have hgc := hat'.box.cell
    refine wpAnyH_two (i := 4) (j := 6) (by kernel_rfl) rfl rfl rfl rfl (fun K hK => ?b1) (fun K hK => ?b2)
    case' b1 =>
      unfold Oper.wp
      go_simp
      refine hK _ _ hv.cell ?_
      clear hK K
      refine wpAnyH_one (i := 6) (by kernel_rfl) rfl rfl (fun K hK => ?_)
      unfold Oper.wp
      go_simp
      refine hK _ _ (hv.alloc _).cell ?_
      clear hK K
    case' b2 =>
      unfold Oper.wp
      go_simp
      refine hK _ _ (hv.alloc _).cell ?_
      clear hK K
      have hgc2 := (hat'.box.alloc (.cells #[B8 x] 5)).cell
      refine wpAnyH_one (i := 4) (by kernel_rfl) rfl rfl (fun K hK => ?_)
      unfold Oper.wp
      go_simp
      refine hK _ _ (hv.alloc _).cell ?_
      clear hK K
    all_goals
      refine wpAnyH_one (i := 7) (by kernel_rfl) rfl rfl (fun K hK => ?_)
      refine wp_append_bs (.tmp 15) (.tmp 17) 22 rfl n₀ 5 i0 Tryz.underlying22 hi hz0 hz1 hz2 v' (xs ++ pre) rfl (hat'.row.alloc _) (.slice (some ⟨W.heap.size, 0, none⟩) 1 1) [x] rfl (Bs.one W x _) (by simp; omega) (by have := hkept.size; simp; omega) ?_
      intro v'' W1 hrow1 hgrow1 hwh1 _ _
      replace hgrow1 := undrew hgrow1
      obtain ⟨hb1, hS1, hk1⟩ := WrSinkWrote.appended (ys := xs ++ pre ++ [x]) hkept hat' hwhere hrow1 hgrow1 (by simpa using hwh1)
      have hv1 : Boxed W1 w.heap.size 155 (.pointer (some ⟨g, 0, none⟩)) := (hv.alloc _).kept hgrow1 (hv.not_row (by decide) hat'.row)
      refine hK _ _ hv1.cell ?_
      clear hK K
      refine wpAnyH_take (i := 8) (v := .pointer (some ⟨g, 0, none⟩)) rfl (by kernel_rfl) (by kernel_rfl) (by kernel_rfl) (fun _ _ _ h => h) (.inl ⟨rfl, fun W1 hW1 => by go_simp⟩) hv1.cell ?_
      refine wpAnyH_take (i := 9) (v := .pointer (some ⟨g, 0, none⟩)) rfl (by kernel_rfl) (by kernel_rfl) (by kernel_rfl) (fun _ _ _ h => h) (.inl ⟨rfl, fun W1 hW1 => by go_simp⟩) hv1.cell ?_
      refine wpAnyH_one (i := 10) (by kernel_rfl) rfl rfl (fun K hK => ?_)
      have hc1 := hb1.cell
      have hf1 := hb1.frozen
      obtain ⟨gg, nn, cc, rfl⟩ := owns_form hrow1 (by simp; omega)
      have hv2 := hv1.other (B' := g) (by omega) (.slice (some ⟨gg, 0, none⟩) nn cc)
      unfold Oper.wp
      go_simp
      refine hK _ _ hv2.cell ?_
      exact wpAnyH_fin (by kernel_rfl) ⟨hk1.from _, trivial, hv2, by simpa using hS1⟩ _
  case done =>
    rintro D ys W hD rfl ⟨hv, hS⟩ hK
    have hc := hv.cell
    gi_wp2
    refine ⟨by simp, .inl ⟨_, _, rfl, run_takeDeferred hK, ?_⟩⟩
    exact ⟨_, results_tmp rfl _ _ _, rfl, hS.turned (Kept.of_grown (grownBy_putObj' W D _)) (fun j e => by cases e; simp at hD; omega) (fun e => by cases e; simp at hD; omega) (fun j o e ho => by cases e; rw [hK] at ho; cases ho; rfl)⟩
  case stop =>
    rintro D c pre W _ _ h _
    exact h.elim

/-- Number, plainly. -/
theorem WrSinkNumber_any (g k : Nat) (hk : k < 18446744073709551616) (w : World) (v : Value) (xs : List UInt8) (n₀ : Nat) (hn₀ : n₀ ≤ w.heap.size)
    (hat : WrSinkAt w n₀ g v xs) (hlen : xs.length ≤ 1000000000) :
    Calls Tryz.prog 79 #[.pointer (some ⟨g, 0, none⟩), .int .u64 k] w fun e W' => e = .returned (.pointer (some ⟨g, 0, none⟩)) ∧ WrSinkWrote w n₀ g v (xs ++ lebB k) W' :=
  callsIn_wide.1 (WrSinkNumber_in g k hk w v xs n₀ hn₀ hat hlen)
end Go.Proofs.YtljihmbmjpcfaaaGreat
namespace Go.Proofs.YtljihmbmjpcfaaaGreat
open Go.RowKit

set_option maxHeartbeats 400000 in
theorem WrSinkNumber_none (k : Int) (w : World) : Calls Tryz.prog 79 #[.pointer none, .int .u64 k] w fun e W' => e = .returned (.pointer none) ∧ Below w.heap.size w W' := by
  go_enter Tryz.func79, Tryz.ntmps79
  go_wp2
  go_ret
  exact ⟨rfl, (Below.refl _ _).alloc (Nat.le_refl _) _⟩

set_option maxHeartbeats 400000 in
theorem WrSinkRaw_none (v : Value) (w : World) : Calls Tryz.prog 215 #[.pointer none, v] w fun e W' => e = .returned (.pointer none) ∧ w = W' := by
  go_enter Tryz.func215, Tryz.ntmps215
  go_wp2
  go_ret
  exact ⟨rfl, rfl⟩

set_option maxHeartbeats 400000 in
theorem WrSinkAll_none (w : World) : Calls Tryz.prog 49 #[.pointer none] w fun e W' => e = .returned (.slice none 0 0) ∧ w = W' := by
  go_enter Tryz.func49, Tryz.ntmps49
  go_wp2
  go_ret
  exact ⟨rfl, rfl⟩

set_option maxHeartbeats 400000 in
theorem WrSinkRaw_any (g : Nat) (w : World) (v : Value) (xs : List UInt8) (n₀ : Nat) (hn₀ : n₀ ≤ w.heap.size) (hat : WrSinkAt w n₀ g v xs) (sv : Value) (ys : List UInt8) (hs : Bs w sv ys) (hlen : xs.length + ys.length ≤ 2000000000) :
    Calls Tryz.prog 215 #[.pointer (some ⟨g, 0, none⟩), sv] w fun e W' => e = .returned (.pointer (some ⟨g, 0, none⟩)) ∧ WrSinkWrote w n₀ g v (xs ++ ys) W' := by
  obtain ⟨i0, hi, hz0, hz1, hz2⟩ := info_parts infoU8
  have hc := hat.box.cell
  go_enter Tryz.func215, Tryz.ntmps215
  go_wp2_with (at_builtin; refine wpList_append_bs rfl (.tmp 11) (.tmp 12) 22 rfl n₀ 5 i0 Tryz.underlying22 hi hz0 hz1 hz2 v xs rfl hat.row sv ys rfl hs (by omega) hn₀ ?_; intro v' w1 hown1 hg1 hw1 _ _; obtain ⟨A', n', c', rfl⟩ := owns_slice hown1; have hb1 := hat.box.kept hg1 hat.row_ne.symm; have hc1 := hb1.cell; have hf1 := hb1.frozen; clear hc)
  go_ret
  refine ⟨rfl, _, ⟨hb1.set _, hown1.kept (grownBy_setCell' w1 g _) (.inr (hb1.not_row (by decide) hown1).symm)⟩, ((Kept.refl _ _).grown hg1 (fun j e _ => .inr e)).setCell (p := ⟨g, 0, none⟩) (fun _ => .inl rfl) _, ?_⟩
  rcases hw1 with e | e
  · exact .inl e
  · exact .inr (fun j hj => by rw [e] at hj; cases hj; exact Nat.le_refl _)

set_option maxHeartbeats 400000 in
theorem WrSinkAll_any (g : Nat) (w : World) (v : Value) (xs : List UInt8) (n₀ : Nat) (hat : WrSinkAt w n₀ g v xs) (hlen : xs.length ≤ 2000000000) :
    Calls Tryz.prog 49 #[.pointer (some ⟨g, 0, none⟩)] w fun e W' => ∃ v', e = .returned v' ∧ W'.ownsRow w.heap.size 5 1 v' xs.length (xs.map B8) ∧ Below w.heap.size w W' := by
  have hc := hat.box.cell
  go_enter Tryz.func49, Tryz.ntmps49
  go_wp2_with (go_at_call 80; refine (Clone_any _ v xs (Bs.of_owns hat.row) (by omega)).mono ?_; rintro e w' ⟨v', rfl, h1, h2⟩)
  go_ret
  exact ⟨v', rfl, h1, h2⟩

set_option maxHeartbeats 400000 in
theorem WrSinkBytes_none (sv : Value) (ys : List UInt8) (w : World) (hs : Bs w sv ys) (hlen : ys.length ≤ 2000000000) : Calls Tryz.prog 211 #[.pointer none, sv] w fun e W' => e = .returned (.pointer none) ∧ Below w.heap.size w W' := by
  obtain ⟨A, c, rfl, hc⟩ := hs.form
  go_enter Tryz.func211, Tryz.ntmps211
  go_wp2_with fail
  refine (WrSinkNumber_none _ _).mono ?_
  rintro e w' ⟨rfl, h1⟩
  go_wp2_with fail
  refine (WrSinkRaw_none _ _).mono ?_
  rintro e w' ⟨rfl, rfl⟩
  go_wp2
  go_ret
  exact ⟨rfl, h1⟩

theorem WrSinkWrote.chain {w W W' : World} {n₀ g : Nat} {v v' : Value} {ys : List UInt8} (hk : Kept (fun j => j = g ∨ v.ownBlock = some j) w W) (h3 : v'.ownBlock = v.ownBlock ∨ ∀ j, v'.ownBlock = some j → w.heap.size ≤ j)
    (h : WrSinkWrote W n₀ g v' ys W') : WrSinkWrote w n₀ g v ys W' := by
  obtain ⟨v'', h1, h2, h4⟩ := h
  refine ⟨v'', h1, hk.trans h2 (fun j hj t => ?_), ?_⟩
  · rcases t with t | t
    · exact .inl t
    · rcases h3 with h3 | h3
      · exact .inr (h3 ▸ t)
      · exact absurd (h3 j t) (by omega)
  · rcases h4 with h4 | h4
    · rw [h4]; exact h3
    · exact .inr (fun j hj => Nat.le_trans hk.size (h4 j hj))

set_option maxHeartbeats 400000 in
theorem WrSinkBytes_any (g : Nat) (w : World) (v : Value) (xs : List UInt8) (n₀ : Nat) (hn₀ : n₀ ≤ w.heap.size) (hat : WrSinkAt w n₀ g v xs) (sv : Value) (ys : List UInt8) (hs : Bs w sv ys)
    (hap : ys ≠ [] → ∀ j, sv.ownBlock = some j → j ≠ g ∧ v.ownBlock ≠ some j) (hlen : xs.length + ys.length ≤ 1000000000) :
    Calls Tryz.prog 211 #[.pointer (some ⟨g, 0, none⟩), sv] w fun e W' => e = .returned (.pointer (some ⟨g, 0, none⟩)) ∧ WrSinkWrote w n₀ g v (xs ++ (lebB ys.length ++ ys)) W' := by
  obtain ⟨A, c, rfl, hc⟩ := hs.form
  have hl10 := lebB_u64 (n := ys.length) (by omega)
  go_enter Tryz.func211, Tryz.ntmps211
  go_wp2_with fail
  refine (WrSinkNumber_any g ys.length (by omega) w v xs n₀ hn₀ hat (by omega)).mono ?_
  rintro e w1 ⟨rfl, v1, hat1, hk1, hw1⟩
  have hs1 := hk1.bs1 hs (fun hx j hj t => by
    obtain ⟨h2, h3⟩ := hap hx j hj
    rcases t with t | t
    · exact h2 t
    · exact h3 t)
  go_wp2_with fail
  refine (WrSinkRaw_any g w1 v1 (xs ++ lebB ys.length) n₀ (by have := hk1.size; omega) hat1 _ ys hs1 (by simp; omega)).mono ?_
  rintro e w2 ⟨rfl, h2⟩
  go_wp2
  go_ret
  exact ⟨rfl, by rw [← List.append_assoc]; exact h2.chain hk1 hw1⟩
end Go.Proofs.YtljihmbmjpcfaaaGreat
