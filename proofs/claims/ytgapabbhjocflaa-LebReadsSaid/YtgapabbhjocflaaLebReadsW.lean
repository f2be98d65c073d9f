/- The walk of LebReads. -/
import Derived.Test.YtgapabbhjocflaaLebPair
namespace Go.Proofs.Ytgapabbhjocflaa
open Go.RowKit

theorem raw_back_eq (n : Int) (xs : List UInt8) : back xs (rawRes n xs) = rawRes n xs := by
  unfold back rawRes
  by_cases h0 : n < 0
  · simp [h0]
  · by_cases h1 : (xs.length : Int) < n
    · simp [h0, h1]
    · simp [h0, h1]
theorem refRawB_any (w : World) (g : Nat) (v : Value) (xs : List UInt8) (hat : RefAt w g v xs) (hlen : xs.length ≤ 140737488355328) (n : Int) :
    Calls Try.prog 25 #[.pointer (some ⟨g, 0, none⟩), .int .i64 n] w (RefRawOut w g v (back xs (rawRes n xs))) := by
  rw [raw_back_eq]
  exact refRaw_any w g v xs hat hlen n

set_option maxRecDepth 100000 in
set_option maxHeartbeats 2000000 in
theorem reads_some (A : Option Addr) (cap : Nat) (l : List OpV) (Ab : Option Addr) (cb : Nat) (bs : List UInt8) (w : World) (hl0 : 0 < l.length → ∃ b off, A = some ⟨b, off, none⟩ ∧ OpsAt w b off l) (h100 : l.length ≤ 100)
    (hg : Calls Try.prog 10 #[.slice A l.length cap] w fun e W' => e = .returned (.bool false) ∧ w = W') (hbs : Bs w (.slice Ab bs.length cb) bs) (hlb : bs.length ≤ 20000) :
    Calls Try.prog 4 #[.slice Ab bs.length cb, .slice A l.length cap] w fun e W' => e = .returned (.bool true) ∧ Below w.heap.size w W' := by
  have HG := Lib.hid hg
  have HL := Lib.hid hl0
  have hdb : decide (20000 < (bs.length : Int)) = false := by simp; omega
  clear hg hl0
  go_enter Try.func4, Try.ntmps4
  go_wp2_with fail
  refine HG.out.mono ?_
  rintro e w0 ⟨rfl, rfl⟩
  go_wp2_with fail
  refine (Twin_any w _ bs hbs (by omega)).mono ?_
  rintro e w1 ⟨own, rfl, hrow1, hb1⟩
  obtain ⟨Ao, co, rfl, hco⟩ := (Bs.of_owns hrow1).form
  go_wp2_with fail
  refine (From_any w1 _ bs (Bs.of_owns hrow1) (by omega)).mono ?_
  rintro e w2 ⟨gs, v2, rfl, hat2, hgs2, hv2, hb2⟩
  have hB2 := hb1.trans (hb2.mono hb1.size)
  go_wp2_with fail
  refine (Twin_any w2 _ bs (hbs.below hB2) (by omega)).mono ?_
  rintro e w3 ⟨rf, rfl, hrow3, hb3⟩
  obtain ⟨Ar, cr, rfl, hcr⟩ := (Bs.of_owns hrow3).form
  have hB3 := hB2.trans (hb3.mono hB2.size)
  have hp4 : Pair (w3.alloc (.cells #[.slice Ar bs.length cr] 41)) gs w3.heap.size v2 (.slice Ar bs.length cr) bs bs := by
    have hb4 : Below w2.heap.size w2 (w3.alloc (.cells #[.slice Ar bs.length cr] 41)) := hb3.alloc hb3.size _
    have hlt2 := hat2.box.lt
    have h23 := hb3.size
    refine ⟨hat2.kept (T := fun _ => False) (Kept.of_below hb4 (Nat.le_refl _) _) (fun h => h) (fun _ _ h => h), ⟨Boxed.new w3 _ _, ((Kept.refl (fun _ => False) w3).alloc _).bs (Bs.of_owns hrow3) (fun _ _ h => h), fun j hj => ?_⟩, by omega, fun e => ?_, fun e => ?_⟩
    · have := hrow3.lt j hj
      simp
      omega
    · have := (hat2.row _ e).1
      omega
    · have := (hrow3.lt _ e).1
      omega
  have hown4 : Row (w3.alloc (.cells #[.slice Ar bs.length cr] 41)) w.heap.size (.slice Ao bs.length co) bs := (Kept.of_below (hb2.trans ((hb3.alloc hb3.size _).mono hb2.size)) (Nat.le_refl _) (fun _ => False)).owns hrow1 (fun _ _ h => h)
  have hob : ∀ j, (Value.slice Ao bs.length co).ownBlock = some j → j < w1.heap.size := fun j hj => (hrow1.lt j hj).2
  have hgs : w.heap.size ≤ gs := Nat.le_trans hb1.size hgs2
  have hgr : w.heap.size ≤ w3.heap.size := hB3.size
  have hw13 : w1.heap.size ≤ w3.heap.size := Nat.le_trans hb2.size hb3.size
  have hr3 : ∀ j, (Value.slice Ar bs.length cr).ownBlock = some j → w1.heap.size ≤ j := fun j hj => Nat.le_trans hb2.size (hrow3.lt j hj).1
  have hB4 : Below w.heap.size w (w3.alloc (.cells #[.slice Ar bs.length cr] 41)) := hB3.alloc hB3.size _
  have HOB := Lib.hid hob
  have HR3 := Lib.hid hr3
  have HV2 := Lib.hid hv2
  have HP4 := Lib.hid hp4
  clear hob hr3 hv2 hp4 hb1 hb2 hb3 hB2 hB3 hat2 hrow1 hrow3
  go_wp2_with fail
  obtain ⟨gr, hgr0⟩ : ∃ g, g = w3.heap.size := ⟨_, rfl⟩
  obtain ⟨w4, hw4⟩ : ∃ x, x = w3.alloc (.cells #[.slice Ar bs.length cr] 41) := ⟨_, rfl⟩
  rw [← hw4] at HP4 hown4 hB4
  rw [← hgr0] at HP4 hgr hw13
  try rw [← hw4]
  try rw [← hgr0]
  clear hgr0 hw4
  go_loopw [41] (fun i wr2 => ∃ (q : Nat) (zs : List UInt8), q ≤ bs.length ∧ i = .int .i64 q ∧ zs.length = bs.length ∧ Row wr2 w.heap.size (.slice Ao bs.length co) zs ∧ Kept (fun j => (Value.slice Ao bs.length co).ownBlock = some j) w4 wr2) (fun i _ => bs.length - (intOf i).toNat)
  case atStart => exact ⟨0, _, Nat.zero_le _, rfl, rfl, hown4, Kept.refl _ _⟩
  case round =>
    obtain ⟨q, zs, hq, rfl, hzl, hrow, hkp⟩ := hrel
    by_cases hql : q < bs.length
    case pos =>
      obtain ⟨y, hy⟩ : ∃ y, zs[q]? = some y := ⟨zs[q], List.getElem?_eq_getElem (by omega)⟩
      obtain ⟨go, hA, _⟩ := row_at hrow (by omega)
      subst hA
      have hrow' : Row wr w.heap.size (.slice (some ⟨go, 0, none⟩) zs.length co) zs := by rw [hzl]; exact hrow
      have cq := row_cell hrow' hy
      have fq := hrow'.frozenAt q
      have hset := row_set hrow' (q := q) (y + 1)
      rw [inc_u8, hzl] at hset
      have HSET := Lib.hid hset
      have HZL := Lib.hid hzl
      clear hset hzl hy hrow hrow'
      go_wp2_with fail
      go_roundw
      case rel => exact ⟨q + 1, zs.set q (y + 1), by omega, by go_num, by rw [List.length_set]; exact HZL.out, HSET.out, hkp.setCell (p := ⟨go, q, none⟩) (fun _ => rfl) _⟩
      case measure => simp [intOf]; omega
    case neg =>
      have hp0 : Pair wr gs gr v2 (.slice Ar bs.length cr) bs bs := HP4.out.kept hkp (fun t => by have := HOB.out _ t; omega) (fun t => by have := HOB.out _ t; omega) (fun j hj t => by have := HOB.out _ t; have := HV2.out _ hj; omega) (fun j hj t => by have := HOB.out _ t; have := HR3.out _ hj; omega)
      have hB0 := hB4.trans (hkp.below (fun j _ t => (hown4.lt j t).1) hB4.size)
      clear hrow hzl hkp HP4 HOB HV2 HR3 hown4 hB4
      go_wp2_with fail
      go_loopw [53] (fun i wr => ∃ (k : Nat) (v u : Value) (xs : List UInt8), k ≤ l.length ∧ i = .int .i64 k ∧ xs.length ≤ 20000 ∧ Pair wr gs gr v u xs xs ∧ Below w.heap.size w wr) (fun i _ => l.length - (intOf i).toNat)
      case atStart => exact ⟨0, _, _, _, Nat.zero_le _, rfl, hlb, hp0, hB0⟩
      case round =>
        clear hp0 hB0
        obtain ⟨k, v, u, xs, hk, rfl, hx, hp, hB⟩ := hrel
        by_cases hlt : k < l.length
        case neg =>
          obtain rfl : k = l.length := by omega
          obtain ⟨w5, hw5⟩ : ∃ y, y = wr := ⟨_, rfl⟩
          subst hw5
          obtain ⟨xs5, hxs5⟩ : ∃ y, y = xs := ⟨_, rfl⟩
          subst hxs5
          obtain ⟨v5, hv5⟩ : ∃ y, y = v := ⟨_, rfl⟩
          subst hv5
          have hp5 := hp
          have hB5 := hB
          clear hp hB
          go_wp2_with fail
          obtain ⟨Au, cu, hu, _⟩ := hp5.ref.bytes.form
          subst hu
          have hS : Pair w5.drew gs gr v5 (.slice Au xs5.length cu) xs5 xs5 ∧ Below w.heap.size w w5.drew := ⟨hp5.below (Below.refl _ _).drew, hB5.drew⟩
          have hE : ∃ E : Int, ∀ W1, (Pair W1 gs gr v5 (.slice Au xs5.length cu) xs5 xs5 ∧ Below w.heap.size w W1) → (Calls Try.prog 27 #[.pointer (some ⟨gs, 0, none⟩)] W1 fun e W' => e = .returned (.int .i64 E) ∧ W1 = W') ∧ (Calls Try.prog 28 #[.pointer (some ⟨gr, 0, none⟩)] W1 fun e W' => e = .returned (.int .i64 E) ∧ W1 = W') ∧ W1.cell? ⟨gr, 0, none⟩ = some (.slice Au xs5.length cu) := ⟨_, fun W1 h => ⟨SrcEnd_any W1 gs _ xs5 h.1.src, refEnd_any W1 gr _ xs5 h.1.ref, h.1.ref.box.cell⟩⟩
          obtain ⟨E, hE⟩ := hE
          have HE := Lib.hid hE
          clear hE hp5 hB5
          refine wp_held (fun W1 => (Pair W1 gs gr v5 (.slice Au xs5.length cu) xs5 xs5 ∧ Below w.heap.size w W1)) (by kernel_rfl) ?_
          refine wpAnyH_next (i := 0) (v := .pointer (some ⟨gs, 0, none⟩)) rfl (by kernel_rfl) (by kernel_rfl) (by kernel_rfl) (fun _ _ _ h => h) (by kernel_rfl) (fun W1 hW1 => by go_simp) hS (fun a' ha' => ?_)
          simp only [Act.put, List.getElem_toArray, List.getElem_cons_zero, List.setIfInBounds_toArray, List.set_cons_succ, List.set_cons_zero] at ha'
          subst ha'
          refine wpAnyH_next (i := 2) (v := .pointer (some ⟨gr, 0, none⟩)) rfl (by kernel_rfl) (by kernel_rfl) (by kernel_rfl) (fun _ _ _ h => h) (by kernel_rfl) (fun W1 hW1 => by go_simp) hS (fun a' ha' => ?_)
          simp only [Act.put, List.getElem_toArray, List.getElem_cons_succ, List.getElem_cons_zero, List.setIfInBounds_toArray, List.set_cons_succ, List.set_cons_zero] at ha'
          subst ha'
          refine wpAnyH_next (i := 3) (v := .pointer (some ⟨gr, 0, none⟩)) rfl (by kernel_rfl) (by kernel_rfl) (by kernel_rfl) (fun _ _ _ h => h) (by kernel_rfl) (fun W1 hW1 => by go_simp) hS (fun a' ha' => ?_)
          simp only [Act.put, List.getElem_toArray, List.getElem_cons_succ, List.getElem_cons_zero, List.setIfInBounds_toArray, List.set_cons_succ, List.set_cons_zero] at ha'
          subst ha'
          refine wpAnyH_next (i := 4) (v := .pointer (some ⟨gr, 0, none⟩)) rfl (by kernel_rfl) (by kernel_rfl) (by kernel_rfl) (fun _ _ _ h => h) (by kernel_rfl) (fun W1 hW1 => by go_simp) hS (fun a' ha' => ?_)
          simp only [Act.put, List.getElem_toArray, List.getElem_cons_succ, List.getElem_cons_zero, List.setIfInBounds_toArray, List.set_cons_succ, List.set_cons_zero] at ha'
          subst ha'
          refine wpAnyH_next (i := 5) (v := .slice Au xs5.length cu) rfl (by kernel_rfl) (by kernel_rfl) (by kernel_rfl) (fun _ _ _ h => h) (by kernel_rfl) (fun W1 hW1 => by have hc := (HE.out W1 hW1).2.2; go_simp) hS (fun a' ha' => ?_)
          simp only [Act.put, List.getElem_toArray, List.getElem_cons_succ, List.getElem_cons_zero, List.setIfInBounds_toArray, List.set_cons_succ, List.set_cons_zero] at ha'
          subst ha'
          refine wpAnyH_next (i := 6) (v := .int .i64 (xs5.length : Int)) rfl (by kernel_rfl) (by kernel_rfl) (by kernel_rfl) (fun _ _ _ h => h) (by kernel_rfl) (fun W1 hW1 => by go_simp) hS (fun a' ha' => ?_)
          simp only [Act.put, List.getElem_toArray, List.getElem_cons_succ, List.getElem_cons_zero, List.setIfInBounds_toArray, List.set_cons_succ, List.set_cons_zero] at ha'
          subst ha'
          refine wpAnyH_want (i := 1) (by kernel_rfl) rfl (by kernel_rfl) (fun K hK => ?_)
          unfold Oper.wp
          go_simp
          refine (SrcLeft_any _ gs v5 xs5 hS.1.src).mono ?_
          rintro e w9 ⟨rfl, rfl⟩
          refine hK _ _ hS ?_
          clear hK K
          refine wpAnyH_next (i := 7) (v := .bool true) rfl (by kernel_rfl) (by kernel_rfl) (by kernel_rfl) (fun _ _ _ h => h) (by kernel_rfl) (fun W1 hW1 => by go_simp) hS (fun a' ha' => ?_)
          simp only [Act.put, List.getElem_toArray, List.getElem_cons_succ, List.getElem_cons_zero, List.setIfInBounds_toArray, List.set_cons_succ, List.set_cons_zero] at ha'
          subst ha'
          refine wpAnyH_next (i := 8) (v := .bool true) rfl (by kernel_rfl) (by kernel_rfl) (by kernel_rfl) (fun _ _ _ h => h) (by kernel_rfl) (fun W1 hW1 => by go_simp) hS (fun a' ha' => ?_)
          simp only [Act.put, List.getElem_toArray, List.getElem_cons_succ, List.getElem_cons_zero, List.setIfInBounds_toArray, List.set_cons_succ, List.set_cons_zero] at ha'
          subst ha'
          refine wpAnyH_fin (by kernel_rfl) ?_ _
          go_wp2
          go_ret
          exact ⟨rfl, hS.2⟩
        case pos =>
          obtain ⟨b, off, rfl, hl⟩ := HL.out (by omega)
          obtain ⟨o, ho⟩ : ∃ o, l[k]? = some o := ⟨l[k], List.getElem?_eq_getElem hlt⟩
          have hop := (hl k o ho).below hB
          have c0 := hop.c0
          have c1 := hop.c1
          have c2 := hop.c2
          have HO := Lib.hid ho
          clear ho
          refine (by omega : o.kind = 0 ∨ o.kind = 1 ∨ o.kind = 2 ∨ (o.kind ≠ 0 ∧ o.kind ≠ 1 ∧ o.kind ≠ 2)).elim (fun hk0 => ?k0) (fun key => key.elim (fun hk0 => ?k1) (fun key => key.elim (fun hk0 => ?k2) (fun hk0 => ?k3)))
          case' k0 =>
            have hk0' : (o.kind == 0) = true := by simp [hk0]
            clear hk0
            have hleft := back_le (xs := xs) (r := numRes o.n xs) (numRes_left o.n xs)
            have hcall := SrcNumber_any wr gs v xs hp.src (by omega) o.n
            have href := fun (W : World) (u' : Value) (h : RefAt W gr u' xs) => refNumber_any W gr u' xs h (by omega) o.n
            generalize back xs (numRes o.n xs) = r at hleft hcall href
            obtain ⟨er, nn, xs5⟩ := r
            dsimp only at hleft hcall href
            have HCALL := Lib.hid hcall
            have HREF := Lib.hid href
            clear hcall href
            go_wp2_with fail
            refine HCALL.out.mono ?_
            rintro e w3 ⟨rfl, hrd3⟩
            obtain ⟨v5, hp3, _⟩ := hp.reads hrd3
            have hB3 := hB.trans (hrd3.below hB.size hgs)
            clear hrd3 hB c0 c1 c2 hp
            have c2 := ((hl k o HO.out).below hB3).c2
            dsimp only at hp3 ⊢
            go_wp2_with fail
            refine (HREF.out w3 u hp3.ref).mono ?_
            rintro e w5 ⟨rfl, hrd4⟩
            obtain ⟨u5, hp5, _⟩ := hp3.refs hrd4
            have hB5 := hB3.trans (hrd4.below hB3.size hgr)
            have hx5 : xs5.length ≤ 20000 := by omega
            clear hrd4 hp3 hB3 c2
            dsimp only at hp5 ⊢
            go_wp2_with fail
          case' k1 =>
            have hk0' : (o.kind == 0) = false := by simp [hk0]
            have hk1' : (o.kind == 1) = true := by simp [hk0]
            clear hk0
            have hleft := back_le (xs := xs) (r := bytesRes o.m xs) (bytesRes_left o.m xs)
            have hgot : (back xs (bytesRes o.m xs)).2.1.length ≤ xs.length := bytesRes_got o.m xs
            have hcall := SrcBytes_any wr gs v xs hp.src (by omega) o.m hop.mw
            have href := fun (W : World) (u' : Value) (h : RefAt W gr u' xs) => refBytes_any W gr u' xs h (by omega) o.m hop.mw
            generalize back xs (bytesRes o.m xs) = r at hleft hgot hcall href
            obtain ⟨er, ys, xs5⟩ := r
            dsimp only at hleft hgot hcall href
            have HCALL := Lib.hid hcall
            have HREF := Lib.hid href
            clear hcall href
            go_wp2_with fail
            refine HCALL.out.mono ?_
            rintro e w3 ⟨x, rfl, hrow3, hrd3⟩
            obtain ⟨v5, hp3, hv5⟩ := hp.reads hrd3
            have hB3 := hB.trans (hrd3.below hB.size hgs)
            have hsz3 : gs < wr.heap.size ∧ gr < wr.heap.size ∧ (∀ j, v5.ownBlock = some j → j < wr.heap.size) ∧ (∀ j, u.ownBlock = some j → j < wr.heap.size) := ⟨hp.src.box.lt, hp.ref.box.lt, fun j hj => (hp.src.row j (hv5 ▸ hj)).1, fun j hj => (hp.ref.row j hj).1⟩
            have hxb : ∀ j, x.ownBlock = some j → wr.heap.size ≤ j := fun j hj => (hrow3.lt j hj).1
            have hrow3' : Row w3 w.heap.size x ys := owns_base hrow3 hB.size
            obtain ⟨M, hM⟩ : ∃ M, M = wr.heap.size := ⟨_, rfl⟩
            rw [← hM] at hsz3 hxb
            have HS3 := Lib.hid hsz3
            have HXB := Lib.hid hxb
            clear hrow3 hrd3 hv5 hsz3 hxb hB c0 c1 c2 hM
            have c1 := ((hl k o HO.out).below hB3).c1
            obtain ⟨Ax, cx, rfl, hcx⟩ := (Bs.of_owns hrow3').form
            go_wp2_with fail
            refine (HREF.out w3 u hp3.ref).mono ?_
            rintro e w4 ⟨x4, rfl, hrow4, hrd4⟩
            obtain ⟨u5, hp4, hu5⟩ := hp3.refs hrd4
            have hB4 := hB3.trans (hrd4.below hB3.size hgr)
            have hrow5 := hrd4.row hrow3' HXB.out HS3.out.2.1
            have hsu5 : ∀ j, u5.ownBlock = some j → j < M := fun j hj => HS3.out.2.2.2 j (hu5 ▸ hj)
            have HSU := Lib.hid hsu5
            have hcv1 := run_string_bs (P := Try.prog) w4 24 9 5 Try.underlying24 Try.underlying5 Try.underlying9 (Bs.of_owns hrow5)
            have hcv2 := run_string_bs (P := Try.prog) w4 24 9 5 Try.underlying24 Try.underlying5 Try.underlying9 (Bs.of_owns hrow4)
            obtain ⟨A4, c4, rfl, hc4⟩ := (Bs.of_owns hrow4).form
            dsimp only at hcv1 hcv2 hp4 hc4 ⊢
            clear hrow3' hrd4 hrow4 hu5 hsu5 hp3 hB3 c1 hp
            go_wp2_with fail
            clear hcv1 hcv2
            go_loopw [125] (fun i wr2 => ∃ (q : Nat) (zs : List UInt8), q ≤ ys.length ∧ i = .int .i64 q ∧ zs.length = ys.length ∧ Row wr2 w.heap.size (.slice Ax ys.length cx) zs ∧ Kept (fun j => (Value.slice Ax ys.length cx).ownBlock = some j) w4 wr2) (fun i _ => ys.length - (intOf i).toNat)
            case atStart => exact ⟨0, _, Nat.zero_le _, rfl, rfl, hrow5, Kept.refl _ _⟩
            case' round =>
              obtain ⟨q, zs, hq, rfl, hzl, hrow, hkp⟩ := hrel
              by_cases hql : q < ys.length
              case pos =>
                obtain ⟨y, hy⟩ : ∃ y, zs[q]? = some y := ⟨zs[q], List.getElem?_eq_getElem (by omega)⟩
                obtain ⟨go, hA, _⟩ := row_at hrow (by omega)
                subst hA
                have hrow' : Row wr w.heap.size (.slice (some ⟨go, 0, none⟩) zs.length cx) zs := by rw [hzl]; exact hrow
                have cq := row_cell hrow' hy
                have fq := hrow'.frozenAt q
                have hset := row_set hrow' (q := q) (y + 1)
                rw [inc_u8, hzl] at hset
                have HSET := Lib.hid hset
                have HZL := Lib.hid hzl
                clear hset hzl hy hrow hrow'
                go_wp2_with fail
                go_roundw
                case rel => exact ⟨q + 1, zs.set q (y + 1), by omega, by go_num, by rw [List.length_set]; exact HZL.out, HSET.out, hkp.setCell (p := ⟨go, q, none⟩) (fun _ => rfl) _⟩
                case measure => simp [intOf]; omega
              case' neg =>
                have hp5 := hp4.turned (m := M) HXB.out HS3.out.1 HS3.out.2.1 HS3.out.2.2.1 HSU.out hkp
                have hB5 := hB4.trans (hkp.below (fun j _ t => (hrow5.lt j t).1) hB4.size)
                have hx5 : xs5.length ≤ 20000 := by omega
                clear hp4 hB4 hrow hrow5 hkp hzl
                go_wp2_with fail
                obtain ⟨w5, hw5⟩ : ∃ y, y = wr := ⟨_, rfl⟩
                subst hw5
          case' k2 =>
            have hk0' : (o.kind == 0) = false := by simp [hk0]
            have hk1' : (o.kind == 1) = false := by simp [hk0]
            have hk2' : (o.kind == 2) = true := by simp [hk0]
            clear hk0
            have hleft := back_le (xs := xs) (r := rawRes o.m xs) (rawRes_left o.m xs)
            have hgot : (back xs (rawRes o.m xs)).2.1.length ≤ xs.length := rawRes_got o.m xs
            have hcall := SrcRaw_any wr gs v xs hp.src (by omega) o.m
            have href := fun (W : World) (u' : Value) (h : RefAt W gr u' xs) => refRawB_any W gr u' xs h (by omega) o.m
            generalize back xs (rawRes o.m xs) = r at hleft hgot hcall href
            obtain ⟨er, ys, xs5⟩ := r
            dsimp only at hleft hgot hcall href
            have HCALL := Lib.hid hcall
            have HREF := Lib.hid href
            clear hcall href
            go_wp2_with fail
            refine HCALL.out.mono ?_
            rintro e w3 ⟨x, rfl, hrow3, hrd3⟩
            obtain ⟨v5, hp3, hv5⟩ := hp.reads hrd3
            have hB3 := hB.trans (hrd3.below hB.size hgs)
            have hsz3 : gs < wr.heap.size ∧ gr < wr.heap.size ∧ (∀ j, v5.ownBlock = some j → j < wr.heap.size) ∧ (∀ j, u.ownBlock = some j → j < wr.heap.size) := ⟨hp.src.box.lt, hp.ref.box.lt, fun j hj => (hp.src.row j (hv5 ▸ hj)).1, fun j hj => (hp.ref.row j hj).1⟩
            have hxb : ∀ j, x.ownBlock = some j → wr.heap.size ≤ j := fun j hj => (hrow3.lt j hj).1
            have hrow3' : Row w3 w.heap.size x ys := owns_base hrow3 hB.size
            obtain ⟨M, hM⟩ : ∃ M, M = wr.heap.size := ⟨_, rfl⟩
            rw [← hM] at hsz3 hxb
            have HS3 := Lib.hid hsz3
            have HXB := Lib.hid hxb
            clear hrow3 hrd3 hv5 hsz3 hxb hB c0 c1 c2 hM
            have c1 := ((hl k o HO.out).below hB3).c1
            obtain ⟨Ax, cx, rfl, hcx⟩ := (Bs.of_owns hrow3').form
            go_wp2_with fail
            refine (HREF.out w3 u hp3.ref).mono ?_
            rintro e w4 ⟨x4, rfl, hrow4, hrd4⟩
            obtain ⟨u5, hp4, hu5⟩ := hp3.refs hrd4
            have hB4 := hB3.trans (hrd4.below hB3.size hgr)
            have hrow5 := hrd4.row hrow3' HXB.out HS3.out.2.1
            have hsu5 : ∀ j, u5.ownBlock = some j → j < M := fun j hj => HS3.out.2.2.2 j (hu5 ▸ hj)
            have HSU := Lib.hid hsu5
            have hcv1 := run_string_bs (P := Try.prog) w4 24 9 5 Try.underlying24 Try.underlying5 Try.underlying9 (Bs.of_owns hrow5)
            have hcv2 := run_string_bs (P := Try.prog) w4 24 9 5 Try.underlying24 Try.underlying5 Try.underlying9 (Bs.of_owns hrow4)
            obtain ⟨A4, c4, rfl, hc4⟩ := (Bs.of_owns hrow4).form
            dsimp only at hcv1 hcv2 hp4 hc4 ⊢
            clear hrow3' hrd4 hrow4 hu5 hsu5 hp3 hB3 c1 hp
            go_wp2_with fail
            clear hcv1 hcv2
            go_loopw [169] (fun i wr2 => ∃ (q : Nat) (zs : List UInt8), q ≤ ys.length ∧ i = .int .i64 q ∧ zs.length = ys.length ∧ Row wr2 w.heap.size (.slice Ax ys.length cx) zs ∧ Kept (fun j => (Value.slice Ax ys.length cx).ownBlock = some j) w4 wr2) (fun i _ => ys.length - (intOf i).toNat)
            case atStart => exact ⟨0, _, Nat.zero_le _, rfl, rfl, hrow5, Kept.refl _ _⟩
            case' round =>
              obtain ⟨q, zs, hq, rfl, hzl, hrow, hkp⟩ := hrel
              by_cases hql : q < ys.length
              case pos =>
                obtain ⟨y, hy⟩ : ∃ y, zs[q]? = some y := ⟨zs[q], List.getElem?_eq_getElem (by omega)⟩
                obtain ⟨go, hA, _⟩ := row_at hrow (by omega)
                subst hA
                have hrow' : Row wr w.heap.size (.slice (some ⟨go, 0, none⟩) zs.length cx) zs := by rw [hzl]; exact hrow
                have cq := row_cell hrow' hy
                have fq := hrow'.frozenAt q
                have hset := row_set hrow' (q := q) (y + 1)
                rw [inc_u8, hzl] at hset
                have HSET := Lib.hid hset
                have HZL := Lib.hid hzl
                clear hset hzl hy hrow hrow'
                go_wp2_with fail
                go_roundw
                case rel => exact ⟨q + 1, zs.set q (y + 1), by omega, by go_num, by rw [List.length_set]; exact HZL.out, HSET.out, hkp.setCell (p := ⟨go, q, none⟩) (fun _ => rfl) _⟩
                case measure => simp [intOf]; omega
              case' neg =>
                have hp5 := hp4.turned (m := M) HXB.out HS3.out.1 HS3.out.2.1 HS3.out.2.2.1 HSU.out hkp
                have hB5 := hB4.trans (hkp.below (fun j _ t => (hrow5.lt j t).1) hB4.size)
                have hx5 : xs5.length ≤ 20000 := by omega
                clear hp4 hB4 hrow hrow5 hkp hzl
                go_wp2_with fail
                obtain ⟨w5, hw5⟩ : ∃ y, y = wr := ⟨_, rfl⟩
                subst hw5
          case' k3 =>
            obtain ⟨hk0, hk1, hk2⟩ := hk0
            have hk0' : (o.kind == 0) = false := by simp [hk0]
            have hk1' : (o.kind == 1) = false := by simp [hk1]
            have hk2' : (o.kind == 2) = false := by simp [hk2]
            clear hk0 hk1 hk2
            go_wp2_with fail
            obtain ⟨w5, hw5⟩ : ∃ y, y = wr := ⟨_, rfl⟩
            subst hw5
            obtain ⟨xs5, hxs5⟩ : ∃ y, y = xs := ⟨_, rfl⟩
            subst hxs5
            obtain ⟨v5, hv5⟩ : ∃ y, y = v := ⟨_, rfl⟩
            subst hv5
            obtain ⟨u5, hu5⟩ : ∃ y, y = u := ⟨_, rfl⟩
            subst hu5
            have hp5 := hp
            have hB5 := hB
            have hx5 := hx
            clear hp hB hx c0 c1 c2
          all_goals
            obtain ⟨Au, cu, hu, _⟩ := hp5.ref.bytes.form
            subst hu
            have hS : Pair w5.drew gs gr v5 (.slice Au xs5.length cu) xs5 xs5 ∧ Below w.heap.size w w5.drew := ⟨hp5.below (Below.refl _ _).drew, hB5.drew⟩
            have hE : ∃ E : Int, ∀ W1, (Pair W1 gs gr v5 (.slice Au xs5.length cu) xs5 xs5 ∧ Below w.heap.size w W1) → (Calls Try.prog 27 #[.pointer (some ⟨gs, 0, none⟩)] W1 fun e W' => e = .returned (.int .i64 E) ∧ W1 = W') ∧ (Calls Try.prog 28 #[.pointer (some ⟨gr, 0, none⟩)] W1 fun e W' => e = .returned (.int .i64 E) ∧ W1 = W') ∧ W1.cell? ⟨gr, 0, none⟩ = some (.slice Au xs5.length cu) := ⟨_, fun W1 h => ⟨SrcEnd_any W1 gs _ xs5 h.1.src, refEnd_any W1 gr _ xs5 h.1.ref, h.1.ref.box.cell⟩⟩
            obtain ⟨E, hE⟩ := hE
            have HE := Lib.hid hE
            clear hE hp5 hB5
            refine wp_held (fun W1 => (Pair W1 gs gr v5 (.slice Au xs5.length cu) xs5 xs5 ∧ Below w.heap.size w W1)) (by kernel_rfl) ?_
            refine wpAnyH_next (i := 0) (v := .pointer (some ⟨gs, 0, none⟩)) rfl (by kernel_rfl) (by kernel_rfl) (by kernel_rfl) (fun _ _ _ h => h) (by kernel_rfl) (fun W1 hW1 => by go_simp) hS (fun a' ha' => ?_)
            simp only [Act.put, List.getElem_toArray, List.getElem_cons_zero, List.setIfInBounds_toArray, List.set_cons_succ, List.set_cons_zero] at ha'
            subst ha'
            refine wpAnyH_next (i := 2) (v := .pointer (some ⟨gr, 0, none⟩)) rfl (by kernel_rfl) (by kernel_rfl) (by kernel_rfl) (fun _ _ _ h => h) (by kernel_rfl) (fun W1 hW1 => by go_simp) hS (fun a' ha' => ?_)
            simp only [Act.put, List.getElem_toArray, List.getElem_cons_succ, List.getElem_cons_zero, List.setIfInBounds_toArray, List.set_cons_succ, List.set_cons_zero] at ha'
            subst ha'
            refine wpAnyH_next (i := 3) (v := .pointer (some ⟨gr, 0, none⟩)) rfl (by kernel_rfl) (by kernel_rfl) (by kernel_rfl) (fun _ _ _ h => h) (by kernel_rfl) (fun W1 hW1 => by go_simp) hS (fun a' ha' => ?_)
            simp only [Act.put, List.getElem_toArray, List.getElem_cons_succ, List.getElem_cons_zero, List.setIfInBounds_toArray, List.set_cons_succ, List.set_cons_zero] at ha'
            subst ha'
            refine wpAnyH_next (i := 4) (v := .pointer (some ⟨gr, 0, none⟩)) rfl (by kernel_rfl) (by kernel_rfl) (by kernel_rfl) (fun _ _ _ h => h) (by kernel_rfl) (fun W1 hW1 => by go_simp) hS (fun a' ha' => ?_)
            simp only [Act.put, List.getElem_toArray, List.getElem_cons_succ, List.getElem_cons_zero, List.setIfInBounds_toArray, List.set_cons_succ, List.set_cons_zero] at ha'
            subst ha'
            refine wpAnyH_next (i := 5) (v := .slice Au xs5.length cu) rfl (by kernel_rfl) (by kernel_rfl) (by kernel_rfl) (fun _ _ _ h => h) (by kernel_rfl) (fun W1 hW1 => by have hc := (HE.out W1 hW1).2.2; go_simp) hS (fun a' ha' => ?_)
            simp only [Act.put, List.getElem_toArray, List.getElem_cons_succ, List.getElem_cons_zero, List.setIfInBounds_toArray, List.set_cons_succ, List.set_cons_zero] at ha'
            subst ha'
            refine wpAnyH_next (i := 6) (v := .int .i64 (xs5.length : Int)) rfl (by kernel_rfl) (by kernel_rfl) (by kernel_rfl) (fun _ _ _ h => h) (by kernel_rfl) (fun W1 hW1 => by go_simp) hS (fun a' ha' => ?_)
            simp only [Act.put, List.getElem_toArray, List.getElem_cons_succ, List.getElem_cons_zero, List.setIfInBounds_toArray, List.set_cons_succ, List.set_cons_zero] at ha'
            subst ha'
            refine wpAnyH_want (i := 1) (by kernel_rfl) rfl (by kernel_rfl) (fun K hK => ?_)
            unfold Oper.wp
            go_simp
            refine (SrcLeft_any _ gs v5 xs5 hS.1.src).mono ?_
            rintro e w9 ⟨rfl, rfl⟩
            refine hK _ _ hS ?_
            clear hK K
            refine wpAnyH_next (i := 7) (v := .bool false) rfl (by kernel_rfl) (by kernel_rfl) (by kernel_rfl) (fun _ _ _ h => h) (by kernel_rfl) (fun W1 hW1 => by go_simp) hS (fun a' ha' => ?_)
            simp only [Act.put, List.getElem_toArray, List.getElem_cons_succ, List.getElem_cons_zero, List.setIfInBounds_toArray, List.set_cons_succ, List.set_cons_zero] at ha'
            subst ha'
            refine wpAnyH_next (i := 8) (v := .bool false) rfl (by kernel_rfl) (by kernel_rfl) (by kernel_rfl) (fun _ _ _ h => h) (by kernel_rfl) (fun W1 hW1 => by go_simp) hS (fun a' ha' => ?_)
            simp only [Act.put, List.getElem_toArray, List.getElem_cons_succ, List.getElem_cons_zero, List.setIfInBounds_toArray, List.set_cons_succ, List.set_cons_zero] at ha'
            subst ha'
            refine wpAnyH_next (i := 9) (v := .pointer (some ⟨gs, 0, none⟩)) rfl (by kernel_rfl) (by kernel_rfl) (by kernel_rfl) (fun _ _ _ h => h) (by kernel_rfl) (fun W1 hW1 => by go_simp) hS (fun a' ha' => ?_)
            simp only [Act.put, List.getElem_toArray, List.getElem_cons_succ, List.getElem_cons_zero, List.setIfInBounds_toArray, List.set_cons_succ, List.set_cons_zero] at ha'
            subst ha'
            refine wpAnyH_next (i := 11) (v := .pointer (some ⟨gr, 0, none⟩)) rfl (by kernel_rfl) (by kernel_rfl) (by kernel_rfl) (fun _ _ _ h => h) (by kernel_rfl) (fun W1 hW1 => by go_simp) hS (fun a' ha' => ?_)
            simp only [Act.put, List.getElem_toArray, List.getElem_cons_succ, List.getElem_cons_zero, List.setIfInBounds_toArray, List.set_cons_succ, List.set_cons_zero] at ha'
            subst ha'
            refine wpAnyH_want (i := 10) (by kernel_rfl) rfl (by kernel_rfl) (fun K hK => ?_)
            unfold Oper.wp
            go_simp
            refine ((HE.out _ hS).1).mono ?_
            rintro e w9 ⟨rfl, rfl⟩
            refine hK _ _ hS ?_
            clear hK K
            refine wpAnyH_want (i := 12) (by kernel_rfl) rfl (by kernel_rfl) (fun K hK => ?_)
            unfold Oper.wp
            go_simp
            refine ((HE.out _ hS).2.1).mono ?_
            rintro e w9 ⟨rfl, rfl⟩
            refine hK _ _ hS ?_
            clear hK K
            refine wpAnyH_next (i := 13) (v := .bool false) rfl (by kernel_rfl) (by kernel_rfl) (by kernel_rfl) (fun _ _ _ h => h) (by kernel_rfl) (fun W1 hW1 => by go_simp) hS (fun a' ha' => ?_)
            simp only [Act.put, List.getElem_toArray, List.getElem_cons_succ, List.getElem_cons_zero, List.setIfInBounds_toArray, List.set_cons_succ, List.set_cons_zero] at ha'
            subst ha'
            refine wpAnyH_next (i := 14) (v := .bool false) rfl (by kernel_rfl) (by kernel_rfl) (by kernel_rfl) (fun _ _ _ h => h) (by kernel_rfl) (fun W1 hW1 => by go_simp) hS (fun a' ha' => ?_)
            simp only [Act.put, List.getElem_toArray, List.getElem_cons_succ, List.getElem_cons_zero, List.setIfInBounds_toArray, List.set_cons_succ, List.set_cons_zero] at ha'
            subst ha'
            refine wpAnyH_fin (by kernel_rfl) ?_ _
            clear HE
            go_wp2_with fail
            go_roundw
            case rel => exact ⟨k + 1, _, _, xs5, by omega, by go_num, hx5, hS.1, hS.2⟩
            case measure => simp [intOf]; omega
end Go.Proofs.Ytgapabbhjocflaa
