/- Union and Less of sets of dots. -/
import Derived.Test.YtcclifnhbncfcaaDotSide
import Derived.Test.YtcclifnhbncfcaaSeqLaw
namespace Go.Proofs.Ytcclifnhbncfcaa
open Go.RowKit Go.Shelf
attribute [local go_sem] Oper.semAt_some

theorem side_in (n : Nat) (A A' : Option Addr) (k c k' c' : Nat) (w : World) :
    CallsIn Fence.wide n Try.prog 49 #[.slice A k c, .slice A' k' c'] w fun e w' => e = .returned (.func (.func 73) #[] #[.pointer (some ⟨w.heap.size, 0, none⟩), .pointer (some ⟨w.heap.size + 1, 0, none⟩)]) ∧ w' = (w.alloc (.cells #[.slice A k c] 36)).alloc (.cells #[.slice A' k' c'] 36) := by
  refine callsIn_of_wp Try.func49 rfl trivial ?_ rfl
  simp only [Try.ntmps49, List.size_toArray, List.length_cons, List.length_nil, Nat.reduceAdd, Nat.reduceSub, Array.replicate_succ, Array.replicate_zero, List.push_toArray, List.append_toArray, List.nil_append, List.cons_append]
  gi_wp2
  go_ret
  exact ⟨by simp, rfl⟩
theorem FarD.of {Bx : Nat} {w w0 : World} {v : Value} {l : List X2} (hs : Ds w v l) (hb : Below w.heap.size w w0) (hx : w.heap.size ≤ Bx) (hrow : rowOf Bx w0 = none) : FarD Bx w0 v l := by
  refine ⟨hs.below hb, fun hne j hj => ?_⟩
  obtain ⟨b, off, c, rfl, _, h1⟩ := hs.full (by cases l with | nil => exact absurd rfl hne | cons a l => simp)
  injection hj with hj
  subst hj
  cases l with
  | nil => exact absurd rfl hne
  | cons a l =>
    have h2 := h1 0 a rfl 0 (.int .i64 a.1) rfl
    obtain ⟨o, ho, hoc⟩ := cells_of_cell h2
    have hlt : b < w.heap.size := World.block_lt_of_cell? _ _ h2
    have hsz := hb.size
    exact ⟨Nat.lt_of_lt_of_le hlt hsz, by show b ≠ Bx; omega, by rw [hrow]; simp, o, (hb.block b hlt).trans ho, hoc⟩

theorem wpListIn_append_es {α : Type} {E : Elt α} {t : TypeId} {P : Program} {ts : TypeId} (he : EltOf P E t ts) {l n : Nat} {w : World} {ops : Array Oper} {rest : List Oper} {o : Oper} {a : Act} {Q : Exit → Act → World → Prop} (hgd : o.guard = none) (s x : Operand)
    (ho : o.op = .call { callee := .builtin .append, args := #[s, x], argTypes := #[ts, ts] }) (base : Nat) (v : Value) (xs : List α) (hv : a.eval s = v) (hown : RowE E t w base v xs) (sv : Value) (m : List α) (hsv : a.eval x = sv) (hs : Es E w sv m)
    (hlen : xs.length + m.length ≤ 1000000) (hbase : base ≤ w.heap.size)
    (h : ∀ v' w', RowE E t w' base v' (xs ++ m) → w.grownBy w' v.ownBlock → (v'.ownBlock = v.ownBlock ∨ v'.ownBlock = some w.heap.size) → wpListIn (Fence.wide.inRound l) n P ops Q rest (a.put o.dst v') w') : wpListIn (Fence.wide.inRound l) n P ops Q (o :: rest) a w :=
  wpListIn_plain hgd fun _ hK => operIn_of_oper (fun c e => by rw [ho] at e; cases e) (wp_append_es he s x ho base v xs hv hown sv m hsv hs hlen hbase fun v' w' h2 h3 h4 => hK _ _ (h v' w' h2 h3 h4))
theorem fold2u (t : Array Value) (p q : Nat) (u v : Value) : Array.foldl (fun (t : Array Value) (x : Nat × Value) => t.setIfInBounds x.fst x.snd) t (#[p, q].zip #[u, v]) = (t.setIfInBounds p u).setIfInBounds q v := by simp
/-- What the round's row is, and what it keeps. -/
def InvU (Bx n1 : Nat) (w : World) (f : List (X2 × Bool) → List X2) (pre : List (X2 × Bool)) (W : World) : Prop :=
  ∃ A k c, Boxed W Bx 36 (.slice A k c) ∧ RowD W n1 (.slice A k c) (f pre) ∧ Below w.heap.size w W
theorem row_cells {W : World} {n1 : Nat} {u : Value} {l : List X2} (h : RowD W n1 u l) {j : Nat} (hj : u.ownBlock = some j) : ∃ o, W.heap[j]? = some o ∧ o.isCells = true := by
  rcases h.2 with ⟨rfl, _⟩ | ⟨g, cap, cur, rfl, _, hg, _⟩
  · cases hj
  · injection hj with hj
    subst hj
    exact ⟨_, hg, rfl⟩
theorem InvU.own {Bx n1 N : Nat} {w : World} {f : List (X2 × Bool) → List X2} (hN : w.heap.size ≤ N) : OwnFrom N (InvU Bx n1 w f) := fun s A B row hs hg hr => by
  obtain ⟨Ad, k, c, h1, h2, h3⟩ := hs
  refine ⟨Ad, k, c, boxed_turn h1 hg hr, (Kept.of_grown hg).owns h2 (fun j hj e => ?_), h3.grown hg h3.size (fun j e => Nat.le_trans hN (hr j e).1)⟩
  obtain ⟨o, ho, hoc⟩ := row_cells h2 hj
  obtain ⟨_, o', ho', hoc'⟩ := hr j e
  rw [ho] at ho'
  cases ho'
  rw [hoc] at hoc'
  cases hoc'
theorem rowOf_box {Bx : Nat} {W : World} {t : TypeId} {u : Value} (h : Boxed W Bx t u) : rowOf Bx W = u.ownBlock := by
  unfold rowOf
  rw [h.cell]
  rfl
theorem Kept.block' {T : Nat → Prop} {w w' : World} (h : Kept T w w') (j : Nat) (hj : ¬ T j) (hs : w'.heap.size = w.heap.size) : w'.heap[j]? = w.heap[j]? := by
  by_cases hl : j < w.heap.size
  · exact h.block j hl hj
  · rw [Array.getElem?_eq_none (by omega), Array.getElem?_eq_none (by omega)]
/-- A round that appends one. -/
theorem InvU.appended {Bx n1 : Nat} {w W w6 : World} {o : Obj} {u u' : Value} {l l' : List X2} (hx : n1 ≤ W.heap.size) (hbx : Boxed W Bx 36 u) (hrow : RowD W n1 u l) (hB : Below w.heap.size w W) (hn1 : w.heap.size ≤ n1) (hbn : n1 ≤ Bx) (hne : u.ownBlock ≠ some Bx)
    (hown : RowD w6 n1 u' l') (hg : (W.alloc o).grownBy w6 u.ownBlock) (hv : u'.ownBlock = u.ownBlock ∨ u'.ownBlock = some (W.alloc o).heap.size) :
    KpR Bx W (w6.setCell ⟨Bx, 0, none⟩ u') ∧ Boxed (w6.setCell ⟨Bx, 0, none⟩ u') Bx 36 u' ∧ RowD (w6.setCell ⟨Bx, 0, none⟩ u') n1 u' l' ∧ Below w.heap.size w (w6.setCell ⟨Bx, 0, none⟩ u') ∧ KeepsOthers W (w6.setCell ⟨Bx, 0, none⟩ u') := by
  have hBl := hbx.lt
  have hsz : (W.alloc o).heap.size = W.heap.size + 1 := by simp
  have hs6 := hg.size
  have hblk : ∀ j, j < W.heap.size → u.ownBlock ≠ some j → w6.heap[j]? = W.heap[j]? := fun j hj hr => (hg.block j (by omega) (fun e => hr e.symm)).trans (Below.heap_alloc W o j hj)
  have hb6 : Boxed w6 Bx 36 u := (hblk Bx hBl hne).trans hbx
  have hset : Boxed (w6.setCell ⟨Bx, 0, none⟩ u') Bx 36 u' := hb6.set u'
  have hss : (w6.setCell ⟨Bx, 0, none⟩ u').heap.size = w6.heap.size := by simp [World.setCell]
  have hoth : ∀ j, j ≠ Bx → (w6.setCell ⟨Bx, 0, none⟩ u').heap[j]? = w6.heap[j]? := fun j hj => ((Kept.refl (fun j => j = Bx) w6).setCell (p := ⟨Bx, 0, none⟩) (fun _ => rfl) u').block' j hj hss
  have hne' : u'.ownBlock ≠ some Bx := by
    rcases hv with e | e
    · rw [e]; exact hne
    · rw [e]; intro h; injection h with h; omega
  refine ⟨⟨by omega, fun j ob hj hc hjx hjr => ?_, ?_, fun _ j hj => ?_⟩, hset, ?_, ?_, ?_⟩
  · have hlt : j < W.heap.size := (Array.getElem?_eq_some_iff.1 hj).1
    rw [rowOf_box hbx] at hjr
    rw [hoth j hjx, hblk j hlt hjr]
    exact hj
  · rw [rowOf_box hset, rowOf_box hbx]
    rcases hv with e | e
    · exact .inl e
    · exact .inr fun j hj => by rw [e] at hj; injection hj with hj; omega
  · rw [rowOf_box hset] at hj
    have := (World.ownsRow.lt hown j hj).2
    omega
  · exact ((Kept.refl (fun j => j = Bx) w6).setCell (p := ⟨Bx, 0, none⟩) (fun _ => rfl) u').owns hown (fun j hj e => hne' (by rw [hj, e]))
  · have h6 : Below w.heap.size w w6 := (hB.alloc hB.size o).grown hg (by have := hB.size; omega) (fun j e => Nat.le_trans hn1 (World.ownsRow.lt hrow j e).1)
    exact h6.setCell (p := ⟨Bx, 0, none⟩) (by show w.heap.size ≤ Bx; omega) u'
  · refine ⟨by omega, fun j ob hj hc => ?_⟩
    have hlt : j < W.heap.size := (Array.getElem?_eq_some_iff.1 hj).1
    have hjx : j ≠ Bx := fun e => by
      subst e
      rw [show W.heap[j]? = _ from hbx] at hj
      cases hj
      cases hc
    have hjr : u.ownBlock ≠ some j := fun e => by
      obtain ⟨o', ho', hoc⟩ := row_cells hrow e
      rw [hj] at ho'
      cases ho'
      rw [hc] at hoc
      cases hoc
    rw [hoth j hjx, hblk j hlt hjr]
    exact hj
theorem side_stops (Bx B1 B2 : Nat) (l m : List X2) (v v' : Value) (hl : l.length ≤ 1000) (hm : m.length ≤ 1000) (w0 : World) (hB1 : w0.cell? ⟨B1, 0, none⟩ = some v) (hB2 : w0.cell? ⟨B2, 0, none⟩ = some v') (hd : FarD Bx w0 v l) (hd' : FarD Bx w0 v' m) (hx : Bx < w0.heap.size) (hr : ∀ j, rowOf Bx w0 = some j → j < w0.heap.size) :
    SeqStopsK Fence.wide (3 - 1) Try.prog 73 #[.pointer (some ⟨B1, 0, none⟩), .pointer (some ⟨B2, 0, none⟩)] encP (KpR Bx) (fun ys => ys = mergeX l m) (fun _ => True) (mergeX l m).length w0 := fun lp J Jx W hW hJa _ hY h0 => by
  have hk := KpR.below hW hx
  exact side1_in 2 (by omega) lp Bx B1 B2 l m v v' hl hm J Jx (fun s A B hs hb => hJa s A B none hs ⟨hb.os, hb.tape, hb.output, hb.size, fun k hk _ => hb.block k hk⟩ (fun r e => by cases e)) hY W (cell_on hW hB1) (cell_on hW hB2) (hd.kept hk) (hd'.kept hk) (Nat.lt_of_lt_of_le hx hW.size) (hk.lt hr) h0

def unionF (pre : List (X2 × Bool)) : List X2 := pre.map (·.1)
def lessF (pre : List (X2 × Bool)) : List X2 := (pre.filter (fun p => !p.2)).map (·.1)
theorem unionF_len (pre : List (X2 × Bool)) : (unionF pre).length ≤ pre.length := by simp [unionF]
theorem lessF_len (pre : List (X2 × Bool)) : (lessF pre).length ≤ pre.length := by simpa [lessF] using List.length_filter_le _ pre
theorem unionF_one (pre : List (X2 × Bool)) (d : X2) (b : Bool) : unionF (pre ++ [(d, b)]) = unionF pre ++ [d] := by simp [unionF]
theorem lessF_one (pre : List (X2 × Bool)) (d : X2) : lessF (pre ++ [(d, false)]) = lessF pre ++ [d] := by simp [lessF]
theorem lessF_none (pre : List (X2 × Bool)) (d : X2) : lessF (pre ++ [(d, true)]) = lessF pre := by simp [lessF]
set_option maxRecDepth 100000 in
set_option maxHeartbeats 2000000 in
theorem pDUnion_in (w : World) (v v' : Value) (l m : List X2) (hs : Ds w v l) (hs' : Ds w v' m) (hl : l.length ≤ 1000) (hm : m.length ≤ 1000) :
    CallsIn Fence.wide 3 Try.prog 18 #[v, v'] w fun e W' => ∃ u, e = .returned (.tuple #[u, .int .i64 (if isB l && isB m then 0 else 50)]) ∧ NewE eDot W' w.heap.size u (if isB l && isB m then unionX l m else []) ∧ Below w.heap.size w W' := by
  refine callsIn_of_wp_marks Try.func18 rfl trivial ?_ rfl
  simp only [Try.ntmps18, List.size_toArray, List.length_cons, List.length_nil, Nat.reduceAdd, Nat.reduceSub, Array.replicate_succ, Array.replicate_zero, List.push_toArray, List.append_toArray, List.nil_append, List.cons_append]
  obtain ⟨A, c, rfl, _⟩ := hs.form
  obtain ⟨A', c', rfl, _⟩ := hs'.form
  have c1 := pDIsSet_any w _ l hs hl
  cases h1 : isB l with
  | false =>
    rw [h1] at c1
    gi_wp2
    refine ⟨trivial, ?_⟩
    gi_at_call 48
    refine (callsIn_wide.2 c1).mono ?_
    rintro e w1 ⟨rfl, hb1⟩
    gi_wp2
    refine ⟨trivial, ?_⟩
    gi_wp2
    all_goals exact ⟨_, results_tmp2 rfl _ _ _, .slice none 0 0, (by first | rfl | (rw [h1]; rfl)), (by first | exact NewE.nil _ _ | (rw [h1]; exact NewE.nil _ _)), hb1⟩
  | true =>
    rw [h1] at c1
    gi_wp2
    refine ⟨trivial, ?_⟩
    gi_at_call 48
    refine (callsIn_wide.2 c1).mono ?_
    rintro e w1 ⟨rfl, hb1⟩
    have c2 := pDIsSet_any w1 _ m (hs'.below hb1) hm
    clear c1
    cases h2 : isB m with
    | false =>
      rw [h2] at c2
      gi_wp2
      refine ⟨trivial, ?_⟩
      gi_at_call 48
      refine (callsIn_wide.2 c2).mono ?_
      rintro e w2 ⟨rfl, hb2⟩
      gi_wp2
      all_goals exact ⟨_, results_tmp2 rfl _ _ _, .slice none 0 0, (by first | rfl | (rw [h1, h2]; rfl)), (by first | exact NewE.nil _ _ | (rw [h1, h2]; exact NewE.nil _ _)), hb1.trans (hb2.mono hb1.size)⟩
    | true =>
      rw [h2] at c2
      gi_wp2
      refine ⟨trivial, ?_⟩
      gi_at_call 48
      refine (callsIn_wide.2 c2).mono ?_
      rintro e w2 ⟨rfl, hb2⟩
      have hB2 := hb1.trans (hb2.mono hb1.size)
      clear c2 hb1 hb2
      gi_wp2
      refine ⟨trivial, ?_⟩
      gi_at_call 49
      refine (side_in 2 _ _ _ _ _ _ _).mono ?_
      rintro e w3 ⟨rfl, rfl⟩
      gi_wp2
      have bX : Boxed (((w2.alloc (.cells #[.slice none 0 0] 36)).alloc (.cells #[.slice A l.length c] 36)).alloc (.cells #[.slice A' m.length c'] 36)) w2.heap.size 36 (.slice none 0 0) := ((Boxed.new w2 _ _).alloc _).alloc _
      have k1 : (((w2.alloc (.cells #[.slice none 0 0] 36)).alloc (.cells #[.slice A l.length c] 36)).alloc (.cells #[.slice A' m.length c'] 36)).cell? ⟨w2.heap.size + 1, 0, none⟩ = some (.slice A l.length c) := by go_simp
      have k2 : (((w2.alloc (.cells #[.slice none 0 0] 36)).alloc (.cells #[.slice A l.length c] 36)).alloc (.cells #[.slice A' m.length c'] 36)).cell? ⟨w2.heap.size + 1 + 1, 0, none⟩ = some (.slice A' m.length c') := by go_simp
      have hB5 : Below w2.heap.size w2 (((w2.alloc (.cells #[.slice none 0 0] 36)).alloc (.cells #[.slice A l.length c] 36)).alloc (.cells #[.slice A' m.length c'] 36)) := (((Below.refl _ w2).alloc (Nat.le_refl _) _).alloc (by rw [World.size_alloc]; omega) _).alloc (by rw [World.size_alloc, World.size_alloc]; omega) _
      have hB : Below w.heap.size w (((w2.alloc (.cells #[.slice none 0 0] 36)).alloc (.cells #[.slice A l.length c] 36)).alloc (.cells #[.slice A' m.length c'] 36)) := hB2.trans (hB5.mono hB2.size)
      have hs5 : (((w2.alloc (.cells #[.slice none 0 0] 36)).alloc (.cells #[.slice A l.length c] 36)).alloc (.cells #[.slice A' m.length c'] 36)).heap.size = w2.heap.size + 3 := by simp
      have hrn : rowOf w2.heap.size (((w2.alloc (.cells #[.slice none 0 0] 36)).alloc (.cells #[.slice A l.length c] 36)).alloc (.cells #[.slice A' m.length c'] 36)) = none := by rw [rowOf_box bX]; rfl
      have hf := FarD.of (Bx := w2.heap.size) hs hB hB2.size hrn
      have hf' := FarD.of (Bx := w2.heap.size) hs' hB hB2.size hrn
      have hw2 := hB2.size
      generalize (((w2.alloc (.cells #[.slice none 0 0] 36)).alloc (.cells #[.slice A l.length c] 36)).alloc (.cells #[.slice A' m.length c'] 36)) = w5 at *
      have hst := side_stops w2.heap.size (w2.heap.size + 1) (w2.heap.size + 1 + 1) l m _ _ hl hm w5 k1 k2 hf hf' (by omega) (fun j hj => by rw [hrn] at hj; cases hj)
      have hml := merge_len _ l m (Nat.le_refl _)
      clear hf hf' hB5 k1 k2
      refine wpIn_rangeFunc_ownH rfl (by omega) (gf := 73) (lb := #[.pointer (some ⟨w2.heap.size + 1, 0, none⟩), .pointer (some ⟨w2.heap.size + 1 + 1, 0, none⟩)]) rfl trivial (enters_of Try.func73 (by kernel_rfl) rfl)
        hst KpR.trans (fun W k o o' hk hW ho _ => KpR.putObj hW ho (by omega)) (Below.refl _ _) (fun _ => rfl)
        (InvU w2.heap.size w2.heap.size w unionF)
        (fun _ _ _ => False)
        (InvU.own (by omega)) (fun _ _ _ _ _ hs _ _ => hs)
        ⟨none, 0, 0, bX, RowE.nil _ _, hB⟩
        (fun x a' W => ∃ g, a' = { tmps := #[.slice A l.length c, .slice A' m.length c', undef, undef, .slice none 0 0, .int .i64 0, .pointer (some ⟨w2.heap.size, 0, none⟩), .pointer (some ⟨g, 0, none⟩), .slice A l.length c, .bool true, .bool false, .bool false, .slice A' m.length c', .bool true, .bool false, .bool false, .slice A l.length c, .slice A' m.length c', .func (.func 73) #[] #[.pointer (some ⟨w2.heap.size + 1, 0, none⟩), .pointer (some ⟨w2.heap.size + 1 + 1, 0, none⟩)], eDot.val x.1, .bool x.2, undef, undef, undef, undef, undef], defers := [] } ∧ ElAt eDot W g 0 x.1)
        (fun x a' _ A B row hs hg hr => by obtain ⟨g, e, hc⟩ := hs; exact ⟨g, e, fun j u hu => cell_kept (hc j u hu) hg (fun r e => (hr r e).2)⟩)
        ?assign ?body ?done ?stop
      case assign =>
        rintro lq pre ⟨⟨s, t⟩, bb⟩ W K hI hK
        rw [show encP ((s, t), bb) = #[DotV s t, .bool bb] from rfl, fold2u]
        gi_wp2
        have hxl : w2.heap.size < W.heap.size := by obtain ⟨_, _, _, hbx, _, _⟩ := hI; exact hbx.lt
        have hBa : Below W.heap.size W (W.alloc (.cells #[.int .i64 s, .int .i64 t] 38)) := (Below.refl _ W).alloc (Nat.le_refl _) _
        exact hK _ _ ((KeepsOthers.alloc W _).from _) (KpR.below hBa hxl) ((InvU.own (N := w.heap.size) (Nat.le_refl _)).alloc _ hI) ⟨W.heap.size, rfl, ElAt.box (E := eDot) W (s, t) 38⟩
      case body =>
        rintro lq pre ⟨⟨s, t⟩, bb⟩ a' W hlq _ ⟨Au, ku, cu, hbx, hrow, hBw⟩ ⟨g, rfl, hg⟩ hlt
        have q1 : W.cell? ⟨g, 0, none⟩ = some (.int .i64 s) := hg 0 _ rfl
        have q2 : W.cell? ⟨g, 1, none⟩ = some (.int .i64 t) := hg 1 _ rfl
        have hbc := hbx.cell
        have hbf := hbx.frozen
        have hxl := hbx.lt
        have hone := Es.one (E := eDot) W (s, t) 38
        have hba : Below W.heap.size W (W.alloc (.cells #[.int .i64 s, .int .i64 t] 38)) := (Below.refl _ W).alloc (Nat.le_refl _) _
        have hrow' := hrow.below hba
        have hne : (Value.slice Au ku cu).ownBlock ≠ some w2.heap.size := fun e => by
          rcases hrow.2 with ⟨e0, _⟩ | ⟨g', cap, cur, e1, _, hg', _⟩
          · rw [e0] at e; cases e
          · rw [e1] at e
            injection e with e
            have e' : g' = w2.heap.size := e
            rw [e', show W.heap[w2.heap.size]? = _ from hbx] at hg'
            injection hg' with hg'
            injection hg' with _ hty
            exact absurd hty (by decide)
        have HFL := Lib.hid (show (unionF pre).length + ([(s, t)] : List X2).length ≤ 1000000 by
          have hfl : (unionF pre).length ≤ pre.length := unionF_len pre
          have h9 : ([(s, t)] : List X2).length = 1 := rfl
          rw [h9]
          omega)
        gi_wp2_with (gi_at_builtin; go_must (refine wpListIn_append_es eltDot rfl (.tmp 21) (.tmp 23) rfl w2.heap.size (.slice Au ku cu) (unionF pre) rfl hrow' _ [(s, t)] rfl hone HFL.out (by have := hba.size; omega) ?_); intro u' w6 hown hg6 hv6; obtain ⟨A6, c6, rfl, _⟩ := RowE.slice hown; have hbl6 := (hg6.block w2.heap.size (by have := hba.size; omega) (fun e => hne e.symm)).trans (hba.block _ hxl); have hbc6 := (World.cell?_of_block (a := ⟨w2.heap.size, 0, none⟩) hbl6).trans hbc; have hbf6 := (World.frozen?_of_block (a := ⟨w2.heap.size, 0, none⟩) hbl6).trans hbf)
        obtain ⟨r1, r2, r3, r4, r5⟩ := InvU.appended (by omega) hbx hrow hBw hw2 (Nat.le_refl _) hne hown hg6 hv6
        rw [show (unionF pre ++ [(s, t)]).length = (unionF pre).length + 1 by simp] at r1 r2 r3 r4 r5
        exact ⟨r5.from _, r1, _, _, _, r2, by rw [unionF_one]; exact r3, r4⟩
      case done =>
        rintro D ys W hD rfl hI hK
        obtain ⟨Af, kf, cf, hbf, hrf, hBf⟩ := (InvU.own (N := w5.heap.size) (by omega)).putObj (.deferred none) hI hD hK rfl
        obtain ⟨Au, ku, cu, hbx, hrow, hBw⟩ := hI
        have hc := hbx.cell
        have hcf := hbf.cell
        have heq : (Value.slice Af kf cf) = .slice Au ku cu := by
          have h9 : (W.putObj D (.deferred none)).cell? ⟨w2.heap.size, 0, none⟩ = W.cell? ⟨w2.heap.size, 0, none⟩ := World.cell?_of_block (World.putObj_heap_other (by show w2.heap.size ≠ D; omega))
          rw [h9, hc] at hcf
          injection hcf with hcf
          exact hcf.symm
        rw [heq] at hrf
        clear heq hcf hbf
        gi_wp2
        all_goals refine ⟨by simp, .inl ⟨_, _, rfl, run_takeDeferred hK, ?_⟩⟩
        all_goals exact ⟨_, results_tmp2 rfl _ _ _, _, by first | rfl | (rw [h1, h2]; rfl), by first | exact (RowE.base hrf hw2).new | (rw [h1, h2]; exact (RowE.base hrf hw2).new), hBf⟩
      case stop =>
        rintro D cc pre W _ _ h _
        exact h.elim
set_option maxRecDepth 100000 in
set_option maxHeartbeats 2000000 in
theorem pDLess_in (w : World) (v v' : Value) (l m : List X2) (hs : Ds w v l) (hs' : Ds w v' m) (hl : l.length ≤ 1000) (hm : m.length ≤ 1000) :
    CallsIn Fence.wide 3 Try.prog 20 #[v, v'] w fun e W' => ∃ u, e = .returned (.tuple #[u, .int .i64 (if isB l && isB m then 0 else 50)]) ∧ NewE eDot W' w.heap.size u (if isB l && isB m then lessX l m else []) ∧ Below w.heap.size w W' := by
  refine callsIn_of_wp_marks Try.func20 rfl trivial ?_ rfl
  simp only [Try.ntmps20, List.size_toArray, List.length_cons, List.length_nil, Nat.reduceAdd, Nat.reduceSub, Array.replicate_succ, Array.replicate_zero, List.push_toArray, List.append_toArray, List.nil_append, List.cons_append]
  obtain ⟨A, c, rfl, _⟩ := hs.form
  obtain ⟨A', c', rfl, _⟩ := hs'.form
  gi_wp2
  refine wpIn_scope_wide ?_
  have c1 := pDIsSet_any w _ l hs hl
  cases h1 : isB l with
  | false =>
    rw [h1] at c1
    gi_wp2
    refine ⟨trivial, ?_⟩
    gi_at_call 48
    refine (callsIn_wide.2 c1).mono ?_
    rintro e w1 ⟨rfl, hb1⟩
    gi_wp2
    refine ⟨trivial, ?_⟩
    gi_wp2
    all_goals exact ⟨_, results_tmp2 rfl _ _ _, .slice none 0 0, (by first | rfl | (rw [h1]; rfl)), (by first | exact NewE.nil _ _ | (rw [h1]; exact NewE.nil _ _)), hb1⟩
  | true =>
    rw [h1] at c1
    gi_wp2
    refine ⟨trivial, ?_⟩
    gi_at_call 48
    refine (callsIn_wide.2 c1).mono ?_
    rintro e w1 ⟨rfl, hb1⟩
    have c2 := pDIsSet_any w1 _ m (hs'.below hb1) hm
    clear c1
    cases h2 : isB m with
    | false =>
      rw [h2] at c2
      gi_wp2
      refine ⟨trivial, ?_⟩
      gi_at_call 48
      refine (callsIn_wide.2 c2).mono ?_
      rintro e w2 ⟨rfl, hb2⟩
      gi_wp2
      all_goals exact ⟨_, results_tmp2 rfl _ _ _, .slice none 0 0, (by first | rfl | (rw [h1, h2]; rfl)), (by first | exact NewE.nil _ _ | (rw [h1, h2]; exact NewE.nil _ _)), hb1.trans (hb2.mono hb1.size)⟩
    | true =>
      rw [h2] at c2
      gi_wp2
      refine ⟨trivial, ?_⟩
      gi_at_call 48
      refine (callsIn_wide.2 c2).mono ?_
      rintro e w2 ⟨rfl, hb2⟩
      have hB2 := hb1.trans (hb2.mono hb1.size)
      clear c2 hb1 hb2
      gi_wp2
      refine wpIn_label_wide ?_
      gi_wp2
      refine ⟨trivial, ?_⟩
      gi_at_call 49
      refine (side_in 2 _ _ _ _ _ _ _).mono ?_
      rintro e w3 ⟨rfl, rfl⟩
      gi_wp2
      have bX : Boxed (((w2.alloc (.cells #[.slice none 0 0] 36)).alloc (.cells #[.slice A l.length c] 36)).alloc (.cells #[.slice A' m.length c'] 36)) w2.heap.size 36 (.slice none 0 0) := ((Boxed.new w2 _ _).alloc _).alloc _
      have k1 : (((w2.alloc (.cells #[.slice none 0 0] 36)).alloc (.cells #[.slice A l.length c] 36)).alloc (.cells #[.slice A' m.length c'] 36)).cell? ⟨w2.heap.size + 1, 0, none⟩ = some (.slice A l.length c) := by go_simp
      have k2 : (((w2.alloc (.cells #[.slice none 0 0] 36)).alloc (.cells #[.slice A l.length c] 36)).alloc (.cells #[.slice A' m.length c'] 36)).cell? ⟨w2.heap.size + 1 + 1, 0, none⟩ = some (.slice A' m.length c') := by go_simp
      have hB5 : Below w2.heap.size w2 (((w2.alloc (.cells #[.slice none 0 0] 36)).alloc (.cells #[.slice A l.length c] 36)).alloc (.cells #[.slice A' m.length c'] 36)) := (((Below.refl _ w2).alloc (Nat.le_refl _) _).alloc (by rw [World.size_alloc]; omega) _).alloc (by rw [World.size_alloc, World.size_alloc]; omega) _
      have hB : Below w.heap.size w (((w2.alloc (.cells #[.slice none 0 0] 36)).alloc (.cells #[.slice A l.length c] 36)).alloc (.cells #[.slice A' m.length c'] 36)) := hB2.trans (hB5.mono hB2.size)
      have hs5 : (((w2.alloc (.cells #[.slice none 0 0] 36)).alloc (.cells #[.slice A l.length c] 36)).alloc (.cells #[.slice A' m.length c'] 36)).heap.size = w2.heap.size + 3 := by simp
      have hrn : rowOf w2.heap.size (((w2.alloc (.cells #[.slice none 0 0] 36)).alloc (.cells #[.slice A l.length c] 36)).alloc (.cells #[.slice A' m.length c'] 36)) = none := by rw [rowOf_box bX]; rfl
      have hf := FarD.of (Bx := w2.heap.size) hs hB hB2.size hrn
      have hf' := FarD.of (Bx := w2.heap.size) hs' hB hB2.size hrn
      have hw2 := hB2.size
      generalize (((w2.alloc (.cells #[.slice none 0 0] 36)).alloc (.cells #[.slice A l.length c] 36)).alloc (.cells #[.slice A' m.length c'] 36)) = w5 at *
      have hst := side_stops w2.heap.size (w2.heap.size + 1) (w2.heap.size + 1 + 1) l m _ _ hl hm w5 k1 k2 hf hf' (by omega) (fun j hj => by rw [hrn] at hj; cases hj)
      have hml := merge_len _ l m (Nat.le_refl _)
      clear hf hf' hB5 k1 k2
      refine wpIn_rangeFunc_ownH rfl (by omega) (gf := 73) (lb := #[.pointer (some ⟨w2.heap.size + 1, 0, none⟩), .pointer (some ⟨w2.heap.size + 1 + 1, 0, none⟩)]) rfl trivial (enters_of Try.func73 (by kernel_rfl) rfl)
        hst KpR.trans (fun W k o o' hk hW ho _ => KpR.putObj hW ho (by omega)) (Below.refl _ _) (fun _ => rfl)
        (InvU w2.heap.size w2.heap.size w lessF)
        (fun _ _ _ => False)
        (InvU.own (by omega)) (fun _ _ _ _ _ hs _ _ => hs)
        ⟨none, 0, 0, bX, RowE.nil _ _, hB⟩
        (fun x a' W => ∃ g, a' = { tmps := #[.slice A l.length c, .slice A' m.length c', undef, undef, .slice none 0 0, .int .i64 0, .pointer (some ⟨w2.heap.size, 0, none⟩), .pointer (some ⟨g, 0, none⟩), .bool x.2, .slice A l.length c, .bool true, .bool false, .bool false, .slice A' m.length c', .bool true, .bool false, .bool false, .slice A l.length c, .slice A' m.length c', .func (.func 73) #[] #[.pointer (some ⟨w2.heap.size + 1, 0, none⟩), .pointer (some ⟨w2.heap.size + 1 + 1, 0, none⟩)], eDot.val x.1, .bool x.2, undef, undef, undef, undef, undef, undef], defers := [] } ∧ ElAt eDot W g 0 x.1)
        (fun x a' _ A B row hs hg hr => by obtain ⟨g, e, hc⟩ := hs; exact ⟨g, e, fun j u hu => cell_kept (hc j u hu) hg (fun r e => (hr r e).2)⟩)
        ?assign ?body ?done ?stop
      case assign =>
        rintro lq pre ⟨⟨s, t⟩, bb⟩ W K hI hK
        rw [show encP ((s, t), bb) = #[DotV s t, .bool bb] from rfl, fold2u]
        gi_wp2
        have hxl : w2.heap.size < W.heap.size := by obtain ⟨_, _, _, hbx, _, _⟩ := hI; exact hbx.lt
        have hBa : Below W.heap.size W (W.alloc (.cells #[.int .i64 s, .int .i64 t] 38)) := (Below.refl _ W).alloc (Nat.le_refl _) _
        exact hK _ _ ((KeepsOthers.alloc W _).from _) (KpR.below hBa hxl) ((InvU.own (N := w.heap.size) (Nat.le_refl _)).alloc _ hI) ⟨W.heap.size, rfl, ElAt.box (E := eDot) W (s, t) 38⟩
      case body =>
        rintro lq pre ⟨⟨s, t⟩, bb⟩ a' W hlq _ ⟨Au, ku, cu, hbx, hrow, hBw⟩ ⟨g, rfl, hg⟩ hlt
        have q1 : W.cell? ⟨g, 0, none⟩ = some (.int .i64 s) := hg 0 _ rfl
        have q2 : W.cell? ⟨g, 1, none⟩ = some (.int .i64 t) := hg 1 _ rfl
        have hbc := hbx.cell
        have hbf := hbx.frozen
        have hxl := hbx.lt
        cases bb with
        | true =>
          gi_wp2
          exact ⟨KeepsFrom.refl _ _, KpR.below (Below.refl _ _) hxl, _, _, _, hbx, by rw [lessF_none]; exact hrow, hBw⟩
        | false =>
          have hone := Es.one (E := eDot) W (s, t) 38
          have hba : Below W.heap.size W (W.alloc (.cells #[.int .i64 s, .int .i64 t] 38)) := (Below.refl _ W).alloc (Nat.le_refl _) _
          have hrow' := hrow.below hba
          have hne : (Value.slice Au ku cu).ownBlock ≠ some w2.heap.size := fun e => by
            rcases hrow.2 with ⟨e0, _⟩ | ⟨g', cap, cur, e1, _, hg', _⟩
            · rw [e0] at e; cases e
            · rw [e1] at e
              injection e with e
              have e' : g' = w2.heap.size := e
              rw [e', show W.heap[w2.heap.size]? = _ from hbx] at hg'
              injection hg' with hg'
              injection hg' with _ hty
              exact absurd hty (by decide)
          have HFL := Lib.hid (show (lessF pre).length + ([(s, t)] : List X2).length ≤ 1000000 by
            have hfl : (lessF pre).length ≤ pre.length := lessF_len pre
            have h9 : ([(s, t)] : List X2).length = 1 := rfl
            rw [h9]
            omega)
          gi_wp2_with (gi_at_builtin; go_must (refine wpListIn_append_es eltDot rfl (.tmp 23) (.tmp 25) rfl w2.heap.size (.slice Au ku cu) (lessF pre) rfl hrow' _ [(s, t)] rfl hone HFL.out (by have := hba.size; omega) ?_); intro u' w6 hown hg6 hv6; obtain ⟨A6, c6, rfl, _⟩ := RowE.slice hown; have hbl6 := (hg6.block w2.heap.size (by have := hba.size; omega) (fun e => hne e.symm)).trans (hba.block _ hxl); have hbc6 := (World.cell?_of_block (a := ⟨w2.heap.size, 0, none⟩) hbl6).trans hbc; have hbf6 := (World.frozen?_of_block (a := ⟨w2.heap.size, 0, none⟩) hbl6).trans hbf)
          obtain ⟨r1, r2, r3, r4, r5⟩ := InvU.appended (by omega) hbx hrow hBw hw2 (Nat.le_refl _) hne hown hg6 hv6
          rw [show (lessF pre ++ [(s, t)]).length = (lessF pre).length + 1 by simp] at r1 r2 r3 r4 r5
          exact ⟨r5.from _, r1, _, _, _, r2, by rw [lessF_one]; exact r3, r4⟩
      case done =>
        rintro D ys W hD rfl hI hK
        obtain ⟨Af, kf, cf, hbf, hrf, hBf⟩ := (InvU.own (N := w5.heap.size) (by omega)).putObj (.deferred none) hI hD hK rfl
        obtain ⟨Au, ku, cu, hbx, hrow, hBw⟩ := hI
        have hc := hbx.cell
        have hcf := hbf.cell
        have heq : (Value.slice Af kf cf) = .slice Au ku cu := by
          have h9 : (W.putObj D (.deferred none)).cell? ⟨w2.heap.size, 0, none⟩ = W.cell? ⟨w2.heap.size, 0, none⟩ := World.cell?_of_block (World.putObj_heap_other (by show w2.heap.size ≠ D; omega))
          rw [h9, hc] at hcf
          injection hcf with hcf
          exact hcf.symm
        rw [heq] at hrf
        clear heq hcf hbf
        gi_wp2
        all_goals refine ⟨by simp, .inl ⟨_, _, rfl, run_takeDeferred hK, ?_⟩⟩
        all_goals exact ⟨_, results_tmp2 rfl _ _ _, _, by first | rfl | (rw [h1, h2]; rfl), by first | exact (RowE.base hrf hw2).new | (rw [h1, h2]; exact (RowE.base hrf hw2).new), hBf⟩
      case stop =>
        rintro D cc pre W _ _ h _
        exact h.elim
theorem pDUnion_any (w : World) (v v' : Value) (l m : List X2) (hs : Ds w v l) (hs' : Ds w v' m) (hl : l.length ≤ 1000) (hm : m.length ≤ 1000) :
    Calls Try.prog 18 #[v, v'] w fun e W' => ∃ u, e = .returned (.tuple #[u, .int .i64 (if isB l && isB m then 0 else 50)]) ∧ NewE eDot W' w.heap.size u (if isB l && isB m then unionX l m else []) ∧ Below w.heap.size w W' :=
  (callsIn_wide (n := 3)).1 (pDUnion_in w v v' l m hs hs' hl hm)
theorem pDLess_any (w : World) (v v' : Value) (l m : List X2) (hs : Ds w v l) (hs' : Ds w v' m) (hl : l.length ≤ 1000) (hm : m.length ≤ 1000) :
    Calls Try.prog 20 #[v, v'] w fun e W' => ∃ u, e = .returned (.tuple #[u, .int .i64 (if isB l && isB m then 0 else 50)]) ∧ NewE eDot W' w.heap.size u (if isB l && isB m then lessX l m else []) ∧ Below w.heap.size w W' :=
  (callsIn_wide (n := 3)).1 (pDLess_in w v v' l m hs hs' hl hm)
end Go.Proofs.Ytcclifnhbncfcaa
