/- The walk of SumWraps. -/
import Derived.Test.YtbclhjcnopfegaaSumAlive
import Derived.Deep.Cut
import Derived.Deep.CutRange
namespace Go.Proofs.Ytbclhjcnopfegaa
open Go.RowKit

/-- What First tells: the error, what is in the first ones, what is behind them. -/
def firstR (xs : List UInt8) : Int × List UInt8 × List UInt8 :=
  match splitR xs with
  | some (a, r) => (0, a, r)
  | none => (20, [], [])

theorem Unwrap_row (w : World) (v : Value) (ys : List UInt8) (hs : Bs w v ys) (hl : ys.length ≤ 140737488355328) :
    Calls Try.prog 9 #[v] w fun e W' => ∃ v', e = .returned (.tuple #[v', .int .i64 (unwrapR ys).1]) ∧ Row W' w.heap.size v' (unwrapR ys).2 ∧ Below w.heap.size w W' := by
  rcases unwrapR_cases ys with ⟨a, h1, h2⟩ | ⟨_, h2⟩
  · rw [h2]
    exact Unwrap_ok w v ys hs hl a h1
  · refine (Unwrap_err w v ys hs hl h2).mono ?_
    rintro e W' ⟨rfl, hB⟩
    rw [h2]
    exact ⟨_, rfl, World.ownsRow_nil _ _ _ _, hB⟩
theorem rUnwrap_row (w : World) (v : Value) (ys : List UInt8) (hs : Bs w v ys) (hl : ys.length ≤ 140737488355328) :
    Calls Try.prog 10 #[v] w fun e W' => ∃ v', e = .returned (.tuple #[v', .int .i64 (unwrapR ys).1]) ∧ Row W' w.heap.size v' (unwrapR ys).2 ∧ Below w.heap.size w W' := by
  rcases unwrapR_cases ys with ⟨a, h1, h2⟩ | ⟨_, h2⟩
  · rw [h2]
    exact rUnwrap_ok w v ys hs hl a h1
  · refine (rUnwrap_err w v ys hs hl h2).mono ?_
    rintro e W' ⟨rfl, hB⟩
    rw [h2]
    exact ⟨_, rfl, World.ownsRow_nil _ _ _ _, hB⟩
theorem First_row (w : World) (v : Value) (ys : List UInt8) (hs : Bs w v ys) (hl : ys.length ≤ 140737488355328) :
    Calls Try.prog 11 #[v] w fun e W' => ∃ v1 v2, e = .returned (.tuple #[v1, v2, .int .i64 (firstR ys).1]) ∧ Row W' w.heap.size v1 (firstR ys).2.1 ∧ Row W' w.heap.size v2 (firstR ys).2.2 ∧
      (∀ j, v1.ownBlock = some j → v2.ownBlock ≠ some j) ∧ Below w.heap.size w W' := by
  unfold firstR
  rcases h : splitR ys with _ | ⟨a, r⟩
  · refine (First_err w v ys hs hl h).mono ?_
    rintro e W' ⟨rfl, hB⟩
    exact ⟨_, _, rfl, World.ownsRow_nil _ _ _ _, World.ownsRow_nil _ _ _ _, fun j h => by simp [Value.ownBlock] at h, hB⟩
  · exact First_ok w v ys hs hl a r h
/-- Where what stands behind begins. -/
def behindR (xs : List UInt8) : Nat :=
  match splitR xs with
  | some (a, _) => a.length + 8
  | none => 0
theorem rFirst_row (w : World) (v : Value) (ys : List UInt8) (hs : Bs w v ys) (hl : ys.length ≤ 140737488355328) :
    Calls Try.prog 12 #[v] w fun e W' => ∃ v', e = .returned (.tuple #[v', .int .i64 (behindR ys : Nat), .int .i64 (firstR ys).1]) ∧ Row W' w.heap.size v' (firstR ys).2.1 ∧ Below w.heap.size w W' := by
  unfold firstR behindR
  rcases h : splitR ys with _ | ⟨a, r⟩
  · refine (rFirst_none w v ys hs hl h).mono ?_
    rintro e W' ⟨rfl, hB⟩
    exact ⟨_, rfl, World.ownsRow_nil _ _ _ _, hB⟩
  · exact rFirst_some w v ys hs hl a r h
theorem first_cases (ys : List UInt8) : ((firstR ys).1 = 20 ∧ (firstR ys).2.2 = []) ∨ ((firstR ys).1 = 0 ∧ behindR ys ≤ ys.length ∧ ys.drop (behindR ys) = (firstR ys).2.2) := by
  unfold firstR behindR
  rcases h : splitR ys with _ | ⟨a, r⟩
  · exact .inl ⟨rfl, rfl⟩
  · obtain ⟨h1, _⟩ := splitR_some h
    refine .inr ⟨rfl, ?_, ?_⟩
    · rw [h1]; simp [wrapB_length]
    · dsimp only
      rw [h1]
      exact List.drop_left' (wrapB_length a)

/-- The four lists that were answered: rows apart from one another; the list of them, at block g. -/
structure Four4 (W : World) (base g : Nat) (j : Nat) (l : List (Value × List UInt8)) : Prop where
  rows : ∀ (i : Nat) (p : Value × List UInt8), j ≤ i → l[i]? = some p → Row W base p.1 p.2
  cells : ∀ (i : Nat) (p : Value × List UInt8), l[i]? = some p → W.cell? ⟨g, i, none⟩ = some p.1
  low : ∀ (i : Nat) (p : Value × List UInt8) (x : Nat), l[i]? = some p → p.1.ownBlock = some x → base ≤ x ∧ x < g
  apart : ∀ (i k : Nat) (p q : Value × List UInt8) (x : Nat), i < k → l[i]? = some p → l[k]? = some q → p.1.ownBlock = some x → q.1.ownBlock ≠ some x
theorem Four4.turned {W W' : World} {base g j : Nat} {l : List (Value × List UInt8)} (h : Four4 W base g j l) {p : Value × List UInt8} (hp : l[j]? = some p) (hk : Kept (fun x => p.1.ownBlock = some x) W W') : Four4 W' base g (j + 1) l := by
  refine ⟨fun i q hi hq => ?_, fun i q hq => ?_, h.low, h.apart⟩
  · exact hk.owns (h.rows i q (by omega) hq) (fun x hx hx' => h.apart j i p q x (by omega) hp hq hx' hx)
  · have h1 := h.cells i q hq
    refine (hk.cell (World.block_lt_of_cell? _ _ h1) (fun hx => ?_)).trans h1
    have := (h.low j p g hp hx).2
    omega

theorem row_len {W : World} {n : Nat} {v : Value} {zs : List UInt8} (h : Row W n v zs) : zs.length ≤ 9223372036854775807 := by
  rcases h.2 with ⟨_, h0⟩ | ⟨g, cap, cur, _, _, _, h1, h2, _⟩
  · omega
  · unfold maxLen at h2
    omega

set_option maxRecDepth 100000 in
set_option maxHeartbeats 2000000 in
theorem wraps_some (w : World) (A : Option Addr) (c : Nat) (ys : List UInt8) (hs : Bs w (.slice A ys.length c) ys) (hl : ys.length ≤ 5000) :
    Calls Try.prog 3 #[.slice A ys.length c] w fun e W' => e = .returned (.bool true) ∧ Below w.heap.size w W' := by
  obtain ⟨i0, hi, hz0, hz1, hz2⟩ := info_parts infoU8
  have ho : (w.alloc (.cells #[] 5)).ownsRow w.heap.size 5 1 (.slice (some ⟨w.heap.size, 0, none⟩) ([] : List UInt8).length 0) ([] : List UInt8).length (([] : List UInt8).map B8) := World.ownsRow_made w #[] 0 (Nat.le_refl _) (by simp [maxLen]) rfl
  have h0 : Below w.heap.size w (w.alloc (.cells #[] 5)) := (Below.refl _ w).alloc (Nat.le_refl _) _
  have hs0 := hs.below h0
  go_enter Try.func3, Try.ntmps3
  go_wp2_with (at_builtin; first | (refine wpList_append_bs rfl (.tmp 26) (.tmp 27) 22 rfl w.heap.size 5 i0 Try.underlying22 hi hz0 hz1 hz2 _ [] rfl ho _ ys rfl hs0 (by simp; omega) (by simp) ?_; intro v1 w1 hown1 hg1 _ _ _; have h1 : Below w.heap.size w w1 := h0.trans ((Kept.of_grown hg1).below (fun j _ e => by have e' : some w.heap.size = some j := e; cases e'; exact Nat.le_refl _) (by simp)); clear hg1; obtain ⟨A1, n1, c1, rfl⟩ := owns_slice hown1) | (refine wpList_append_bs rfl (.tmp 28) (.tmp 29) 22 rfl w.heap.size 5 i0 Try.underlying22 hi hz0 hz1 hz2 _ _ rfl (hown1.alloc _) _ [7] rfl (Bs.one w1 7 5) (by simp; omega) (by have := h1.size; simp; omega) ?_; intro v2 w2 hown2 hg2 _ _ _; obtain ⟨A2, c2, rfl, hc2⟩ := (Bs.of_owns hown2).form; have hc2' : ys.length ≤ c2 := (by simp at hc2; omega)))
  rw [List.nil_append] at hown2 hown1
  have h2 : Below w.heap.size w w2 := (h1.alloc h1.size _).trans ((Kept.of_grown hg2).below (fun j _ e => (hown1.lt j e).1) (by have := h1.size; simp; omega))
  have hbo := Bs.of_owns hown2
  have hlo : (ys ++ [7]).length = ys.length + 1 := by simp
  rw [hlo] at hbo
  have hbt : Bs w2 (.slice A2 ys.length c2) ys := by
    have h := hbo.take (k := ys.length) (by simp)
    rwa [List.take_left' rfl] at h
  have hs2 := hs.below h2
  have HBO := Lib.hid hbo
  clear hown1 hg2 ho h0 hs0 hbo hlo hown2
  refine (Wrap_any w2 _ ys hbt (by omega)).mono ?_
  rintro e w3 ⟨v3, rfl, hown3, h3⟩
  obtain ⟨A3, n3, c3, rfl⟩ := owns_slice hown3
  have HO3 := Lib.hid hown3
  clear hown3
  go_wp2_with fail
  refine (rWrap_any w3 _ ys (hs2.below h3) (by omega)).mono ?_
  rintro e w4 ⟨v4, rfl, hown4, h4⟩
  obtain ⟨A4, n4, c4, rfl⟩ := owns_slice hown4
  have HO4 := Lib.hid hown4
  have h24 : Below w2.heap.size w2 w4 := h3.trans (h4.mono h3.size)
  clear hown4
  go_wp2_with fail
  refine (Unwrap_row w4 _ ys (hbt.below h24) (by omega)).mono ?_
  rintro e w5 ⟨v5, rfl, hown5, h5⟩
  obtain ⟨A5, n5, c5, rfl⟩ := owns_slice hown5
  have HO5 := Lib.hid hown5
  have h25 : Below w2.heap.size w2 w5 := h24.trans (h5.mono h24.size)
  clear hown5
  go_wp2_with fail
  refine (rUnwrap_row w5 _ ys (hs2.below h25) (by omega)).mono ?_
  rintro e w6 ⟨v6, rfl, hown6, h6⟩
  obtain ⟨A6, n6, c6, rfl⟩ := owns_slice hown6
  have HO6 := Lib.hid hown6
  have h26 : Below w2.heap.size w2 w6 := h25.trans (h6.mono h25.size)
  clear hown6
  go_wp2_with fail
  refine (First_row w6 _ ys (hbt.below h26) (by omega)).mono ?_
  rintro e w7 ⟨v7, u7, rfl, hown7, hrow7, hap, h7⟩
  obtain ⟨A7, n7, c7, rfl⟩ := owns_slice hown7
  obtain ⟨B7, m7, d7, rfl⟩ := owns_slice hrow7
  have HO7 := Lib.hid (And.intro hown7 (And.intro hrow7 hap))
  have h27 : Below w2.heap.size w2 w7 := h26.trans (h7.mono h26.size)
  clear hown7 hrow7 hap
  go_wp2_with fail
  refine (rFirst_row w7 _ ys (hs2.below h27) (by omega)).mono ?_
  rintro e w8 ⟨v8, rfl, hown8, h8⟩
  obtain ⟨A8, n8, c8, rfl⟩ := owns_slice hown8
  have HO8 := Lib.hid hown8
  have h28 : Below w2.heap.size w2 w8 := h27.trans (h8.mono h27.size)
  have HFC := Lib.hid (first_cases ys)
  clear hown8
  generalize (unwrapR ys).1 = eu at *
  generalize (unwrapR ys).2 = us at *
  generalize (firstR ys).1 = ef at *
  generalize (firstR ys).2.1 = fs at *
  generalize (firstR ys).2.2 = rs at *
  generalize behindR ys = tb at *
  have hs8 := hs2.below h28
  go_upto_if 73 with fail
  go_cut [18] from 72 to 77 (fun v wc => wc = w8 ∧ v = Str rs)
  case first =>
    rcases HFC.out with ⟨rfl, rfl⟩ | ⟨rfl, htb, hdr⟩
    · go_wp2_with fail
      go_meet
      case rel => exact ⟨rfl, rfl⟩
    · have hdp := hs8.drop htb
      rw [hdr] at hdp
      have hcv := run_string_bs (P := Try.prog) w8 22 9 5 Try.underlying22 Try.underlying5 Try.underlying9 hdp
      clear hdp hdr
      go_wp2_with fail
      all_goals first
        | (have hct : c = tb := by assumption
           subst hct
           go_meet
           case rel => exact ⟨rfl, rfl⟩)
        | (go_meet; case rel => exact ⟨rfl, rfl⟩)
  case rest =>
    obtain ⟨rfl, rfl⟩ := hcut
    have h48 : Below w4.heap.size w4 wc := h5.trans ((h6.trans ((h7.trans (h8.mono h7.size)).mono h6.size)).mono h5.size)
    have h38 : Below w3.heap.size w3 wc := h4.trans (h48.mono h4.size)
    have h58 : Below w5.heap.size w5 wc := h6.trans ((h7.trans (h8.mono h7.size)).mono h6.size)
    have h68 : Below w6.heap.size w6 wc := h7.trans (h8.mono h7.size)
    have g3 := owns_below HO3.out h38
    have g5 := owns_below HO5.out h58
    have g7 := owns_below HO7.out.1 h8
    have g9 := owns_below HO7.out.2.1 h8
    have hcv3 := run_string_bs (P := Try.prog) wc 22 9 5 Try.underlying22 Try.underlying5 Try.underlying9 (Bs.of_owns g3)
    have hcv4 := run_string_bs (P := Try.prog) wc 22 9 5 Try.underlying22 Try.underlying5 Try.underlying9 (Bs.of_owns (owns_below HO4.out h48))
    have hcv5 := run_string_bs (P := Try.prog) wc 22 9 5 Try.underlying22 Try.underlying5 Try.underlying9 (Bs.of_owns g5)
    have hcv6 := run_string_bs (P := Try.prog) wc 22 9 5 Try.underlying22 Try.underlying5 Try.underlying9 (Bs.of_owns (owns_below HO6.out h68))
    have hcv7 := run_string_bs (P := Try.prog) wc 22 9 5 Try.underlying22 Try.underlying5 Try.underlying9 (Bs.of_owns g7)
    have hcv8 := run_string_bs (P := Try.prog) wc 22 9 5 Try.underlying22 Try.underlying5 Try.underlying9 (Bs.of_owns HO8.out)
    have hcv9 := run_string_bs (P := Try.prog) wc 22 9 5 Try.underlying22 Try.underlying5 Try.underlying9 (Bs.of_owns g9)
    obtain ⟨l, hl4⟩ : ∃ l : List (Value × List UInt8), l = [(.slice A3 n3 c3, wrapB ys), (.slice A5 n5 c5, us), (.slice A7 n7 c7, fs), (.slice B7 m7 d7, rs)] := ⟨_, rfl⟩
    have h4w : Four4 (wc.alloc (.cells #[.slice A3 n3 c3, .slice A5 n5 c5, .slice A7 n7 c7, .slice B7 m7 d7] 22)) w2.heap.size wc.heap.size 0 l := by
      have q3 := fun x hx => HO3.out.lt x hx
      have q5 := fun x hx => HO5.out.lt x hx
      have q7 := fun x hx => HO7.out.1.lt x hx
      have q9 := fun x hx => HO7.out.2.1.lt x hx
      have s3 := h38.size
      have s5 := h58.size
      have s7 := h8.size
      have s24 := h24.size
      have s26 := h26.size
      have s45 := h5.size
      have s56 := h6.size
      have s34 := h4.size
      subst hl4
      refine ⟨fun i p _ hp => ?_, fun i p hp => ?_, fun i p x hp hx => ?_, fun i k p q x hik hp hq hx hx' => ?_⟩
      · match i, hp with
        | 0, hp => cases hp; exact (owns_base g3 (Nat.le_refl _)).alloc _
        | 1, hp => cases hp; exact (owns_base g5 s24).alloc _
        | 2, hp => cases hp; exact (owns_base g7 s26).alloc _
        | 3, hp => cases hp; exact (owns_base g9 s26).alloc _
      · match i, hp with
        | 0, hp => cases hp; simp
        | 1, hp => cases hp; simp
        | 2, hp => cases hp; simp
        | 3, hp => cases hp; simp
      · match i, hp with
        | 0, hp => cases hp; have := q3 x hx; omega
        | 1, hp => cases hp; have := q5 x hx; omega
        | 2, hp => cases hp; have := q7 x hx; omega
        | 3, hp => cases hp; have := q9 x hx; omega
      · have hi4 : i < 4 := (List.getElem?_eq_some_iff.1 hp).1
        have hk4 : k < 4 := (List.getElem?_eq_some_iff.1 hq).1
        rcases (by omega : (i = 0 ∧ k = 1) ∨ (i = 0 ∧ k = 2) ∨ (i = 0 ∧ k = 3) ∨ (i = 1 ∧ k = 2) ∨ (i = 1 ∧ k = 3) ∨ (i = 2 ∧ k = 3)) with ⟨rfl, rfl⟩ | ⟨rfl, rfl⟩ | ⟨rfl, rfl⟩ | ⟨rfl, rfl⟩ | ⟨rfl, rfl⟩ | ⟨rfl, rfl⟩
        · cases hp; cases hq; have := q3 x hx; have := q5 x hx'; omega
        · cases hp; cases hq; have := q3 x hx; have := q7 x hx'; omega
        · cases hp; cases hq; have := q3 x hx; have := q9 x hx'; omega
        · cases hp; cases hq; have := q5 x hx; have := q7 x hx'; omega
        · cases hp; cases hq; have := q5 x hx; have := q9 x hx'; omega
        · cases hp; cases hq; exact HO7.out.2.2 x hx hx'
    have hl4l : l.length = 4 := by rw [hl4]; rfl
    have HF4 := Lib.hid h4w
    have hB0 : Below w2.heap.size w2 (wc.alloc (.cells #[.slice A3 n3 c3, .slice A5 n5 c5, .slice A7 n7 c7, .slice B7 m7 d7] 22)) := h28.alloc h28.size _
    clear g3 g5 g7 g9 h4w hl4 h48 h38 h58 h68 HFC HO3 HO4 HO5 HO6 HO7 HO8 hs8 hbt
    go_wp2_with fail
    obtain ⟨g, hg⟩ : ∃ g, g = wc.heap.size := ⟨_, rfl⟩
    obtain ⟨w9, hw9⟩ : ∃ x, x = wc.alloc (.cells #[.slice A3 n3 c3, .slice A5 n5 c5, .slice A7 n7 c7, .slice B7 m7 d7] 22) := ⟨_, rfl⟩
    rw [← hw9] at HF4 hB0
    rw [← hg] at HF4
    try rw [← hw9]
    try rw [← hg]
    clear hg hw9 hcv3 hcv4 hcv5 hcv6 hcv7 hcv8 hcv9
    go_loopw [124] (fun i wr => ∃ j : Nat, j ≤ 4 ∧ i = .int .i64 j ∧ Four4 wr w2.heap.size g j l ∧ Below w2.heap.size w2 wr) (fun i _ => 4 - (intOf i).toNat)
    case atStart => exact ⟨0, by omega, rfl, HF4.out, hB0⟩
    case round =>
      clear HF4 hB0
      obtain ⟨j, hj, rfl, hf4, hB⟩ := hrel
      by_cases hj4 : j < 4
      case pos =>
        obtain ⟨p, hp⟩ : ∃ p, l[j]? = some p := ⟨l[j], List.getElem?_eq_getElem (by omega)⟩
        have hcp := hf4.cells j p hp
        have hrp := hf4.rows j p (Nat.le_refl _) hp
        obtain ⟨u, zs⟩ := p
        dsimp only at hcp hrp
        obtain ⟨Au, cu, rfl, hcu⟩ := (Bs.of_owns hrp).form
        have HF := Lib.hid (And.intro hf4 hp)
        have HRP := Lib.hid hrp
        clear hf4 hp hrp
        have hzm := row_len HRP.out
        obtain ⟨wo, hwo⟩ : ∃ x, x = wr := ⟨_, rfl⟩
        subst hwo
        go_wp2_with fail
        go_loopw [130] (fun i wr2 => ∃ (q : Nat) (xs : List UInt8), q ≤ zs.length ∧ i = .int .i64 q ∧ xs.length = zs.length ∧ Row wr2 w2.heap.size (.slice Au zs.length cu) xs ∧ Kept (fun x => (Value.slice Au zs.length cu).ownBlock = some x) wo wr2) (fun i _ => zs.length - (intOf i).toNat)
        case atStart => exact ⟨0, zs, Nat.zero_le _, rfl, rfl, HRP.out, Kept.refl _ _⟩
        case round =>
          obtain ⟨q, xs, hq, rfl, hxl, hrow, hkp⟩ := hrel
          by_cases hql : q < zs.length
          case pos =>
            obtain ⟨y, hy⟩ : ∃ y, xs[q]? = some y := ⟨xs[q]'(by omega), List.getElem?_eq_getElem (by omega)⟩
            obtain ⟨go, hA, _⟩ := row_at hrow (by omega)
            subst hA
            have hrow' : Row wr w2.heap.size (.slice (some ⟨go, 0, none⟩) xs.length cu) xs := by rw [hxl]; exact hrow
            have cq := row_cell hrow' hy
            have fq := hrow'.frozenAt q
            have hset := row_set hrow' (q := q) (y + 1)
            rw [inc_u8, hxl] at hset
            have HSET := Lib.hid hset
            have HXL := Lib.hid hxl
            clear hset hxl hy hrow hrow'
            go_wp2_with fail
            go_roundw
            case rel => exact ⟨q + 1, xs.set q (y + 1), by omega, by go_num, by rw [List.length_set]; exact HXL.out, HSET.out, hkp.setCell (p := ⟨go, q, none⟩) (fun _ => rfl) _⟩
            case measure => simp [intOf]; omega
          case neg =>
            have hn := HF.out.1.turned HF.out.2 hkp
            have hBn : Below w2.heap.size w2 wr := hB.trans (hkp.below (fun x _ hx => (HRP.out.lt x hx).1) hB.size)
            have HN := Lib.hid (And.intro hn hBn)
            clear hn hBn hrow hxl hkp
            go_wp2_with fail
            go_roundw
            case rel => exact ⟨j + 1, by omega, by go_num, HN.out.1, HN.out.2⟩
            case measure => simp [intOf]; omega
      case neg =>
        obtain rfl : j = 4 := by omega
        have hBe := h2.trans (hB.mono h2.size)
        have hcv1 := run_string_bs (P := Try.prog) wr 22 9 5 Try.underlying22 Try.underlying5 Try.underlying9 (HBO.out.below hB)
        have hcv2 := run_string_bs (P := Try.prog) wr 22 9 5 Try.underlying22 Try.underlying5 Try.underlying9 (hs.below hBe)
        clear hf4
        go_wp2
        go_ret
        refine ⟨?_, hBe⟩
        show Ending.returned (Value.bool _) = _
        congr 2
        simp [ByteArray.toList_eq]

set_option maxRecDepth 100000 in
set_option maxHeartbeats 400000 in
theorem wraps_great (w : World) (A : Option Addr) (n c : Nat) (hn : n ≤ 9223372036854775807) (h : 5000 < n) :
    Calls Try.prog 3 #[.slice A n c] w fun e W' => e = .returned (.bool true) ∧ Below w.heap.size w W' := by
  go_enter Try.func3, Try.ntmps3
  go_wp2
  go_ret
  exact ⟨rfl, Below.refl _ _⟩

/-- For all arguments. -/
theorem wraps_any (w : World) (v : Value) (ys : List UInt8) (hs : Bs w v ys) (hl : ys.length ≤ 9223372036854775807) :
    Calls Try.prog 3 #[v] w fun e W' => e = .returned (.bool true) ∧ Below w.heap.size w W' := by
  obtain ⟨A, c, rfl, _⟩ := hs.form
  by_cases h : 5000 < ys.length
  · exact wraps_great w A _ c hl h
  · exact wraps_some w A c ys hs (by omega)
end Go.Proofs.Ytbclhjcnopfegaa
