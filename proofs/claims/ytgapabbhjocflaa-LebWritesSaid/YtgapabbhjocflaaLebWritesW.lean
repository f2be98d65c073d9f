/- The walk of LebWrites. -/
import Derived.Test.YtgapabbhjocflaaLebThree
import Derived.LaidEqlPtr
namespace Go.Proofs.Ytgapabbhjocflaa
open Go.RowKit

theorem same_sink (W : World) (a : Addr) : (binOp .eql 32 (.pointer (some a)) (.pointer (some a))).run Try.prog W = .ok (.bool true) W := by
  obtain ⟨j, hj⟩ := Option.isSome_iff_exists.1 (show (Try.prog.info? 26).isSome = true by kernel_rfl)
  exact run_eql_ptr_same W a Try.underlying32 hj

set_option maxRecDepth 100000 in
set_option maxHeartbeats 2000000 in
theorem writes_some (b off cap : Nat) (l : List OpV) (w : World) (hl : OpsAt w b off l) (hn : 0 < l.length) (h100 : l.length ≤ 100) (ht : total l ≤ 20000) :
    Calls Try.prog 3 #[.slice (some ⟨b, off, none⟩) l.length cap] w fun e W' => e = .returned (.bool true) ∧ Below w.heap.size w W' := by
  obtain ⟨i0, hi, hz0, hz1, hz2⟩ := info_parts infoU8
  have heqp := fun W : World => same_sink W ⟨w.heap.size, 0, none⟩
  go_enter Try.func3, Try.ntmps3
  go_wp2_with fail
  refine (great_any b off cap l w hl hn (by omega)).mono ?_
  rintro e w2 ⟨rfl, rfl⟩
  have hg : (decide (100 < l.length) || decide (20000 < total l)) = false := by simp; omega
  rw [hg]
  clear hg
  have htw0 : Two (w.alloc (.cells #[.slice none 0 0] 26)) w.heap.size w.heap.size (.slice none 0 0) (.slice none 0 0) (wrote (l.take 0)) (wrote (l.take 0)) := ⟨⟨Boxed.new w 26 (.slice none 0 0), World.ownsRow_nil _ _ _ _⟩, World.ownsRow_nil _ _ _ _, fun j hj => by simp [Value.ownBlock] at hj⟩
  have hB2 : Below w.heap.size w (w.alloc (.cells #[.slice none 0 0] 26)) := (Below.refl _ _).alloc (Nat.le_refl _) _
  go_wp2_with fail
  go_loopw [4, 15] (fun u i wr => ∃ (k : Nat) (v : Value), k ≤ l.length ∧ i = .int .i64 k ∧ Two wr w.heap.size w.heap.size v u (wrote (l.take k)) (wrote (l.take k)) ∧ Below w.heap.size w wr) (fun _ i _ => l.length - (intOf i).toNat)
  case atStart => exact ⟨0, _, Nat.zero_le _, rfl, htw0, hB2⟩
  case round =>
    clear htw0 hB2
    obtain ⟨k, v, hk, rfl, htw, hB⟩ := hrel
    obtain ⟨Au, nu, cu, rfl⟩ := owns_slice htw.want
    have hwl := wrote_le hl k hk
    have htm := total_mono l k
    by_cases hlt : k < l.length
    · obtain ⟨o, ho⟩ : ∃ o, l[k]? = some o := ⟨l[k], List.getElem?_eq_getElem hlt⟩
      have hop := (hl k o ho).below hB
      have c0 := hop.c0
      have c1 := hop.c1
      have c2 := hop.c2
      have c3 := hop.c3
      obtain ⟨A, c, hv, hc⟩ := hop.bytes.form
      rw [hv] at c3
      have hsh : o.bs.length ≤ total l := by have h1 := total_take_succ l k o ho; have h2 := total_mono l (k + 1); omega
      have hbs0 := (hl k o ho).bytes
      rw [hv] at hbs0
      have HO := Lib.hid ho
      have HBS := Lib.hid hbs0
      have HV := Lib.hid hv
      have hwl1 : (wrote (l.take (k + 1))).length ≤ 21000 := by have h1 := wrote_le hl (k + 1) (by omega); have h2 := total_mono l (k + 1); omega
      clear hv ho hbs0
      go_wp2_with fail
      refine (Twin_any wr _ o.bs (HBS.out.below hB) (by omega)).mono ?_
      rintro e w3 ⟨own, rfl, hrow3, hb3⟩
      have hth := Three.start htw hB.size hrow3 hb3
      have hB3 := hB.trans (hb3.mono hB.size)
      obtain ⟨Ao, co, rfl, hco⟩ := (Bs.of_owns hrow3).form
      clear htw hrow3 hb3 hB hop c0 c1 c2 c3
      have hop := (hl k o HO.out).below hB3
      have c0 := hop.c0
      have c2 := hop.c2
      have c3 := hop.c3
      rw [HV.out] at c3
      refine (by omega : o.kind = 0 ∨ o.kind = 1 ∨ o.kind = 2 ∨ (o.kind ≠ 0 ∧ o.kind ≠ 1 ∧ o.kind ≠ 2)).elim (fun hk0 => ?k0) (fun key => key.elim (fun hk0 => ?k1) (fun key => key.elim (fun hk0 => ?k2) (fun hk0 => ?k3)))
      case' k0 =>
        have hk0' : (o.kind == 0) = true := by simp [hk0]
        have hob : opBytes o = lebB o.n := by simp [opBytes, hk0]
        have HOB := Lib.hid hob
        have hlb := lebB_u64 hop.small
        clear hob hk0
        go_wp2_with fail
        refine (rNumber_any o.n hop.small _).mono ?_
        rintro e w4 ⟨v4, rfl, hrow4, hb4⟩
        replace hth := hth.below hb4
        have hB4 := hB3.trans (hb4.mono hB3.size)
        obtain ⟨A4, n4, c4, rfl⟩ := owns_slice hrow4
        clear hb4 hB3 c0 c2 c3
        have hth0 := hth
        go_wp2_with (at_builtin; refine wpList_append_bs rfl (.tmp 31) (.tmp 37) 24 rfl w.heap.size 5 i0 Try.underlying24 hi hz0 hz1 hz2 _ (wrote (l.take k)) rfl hth.two.want _ (lebB o.n) rfl (Bs.of_owns hrow4) (by omega) hB4.size ?_; intro v' w41 hown1 hg1 hw1 _ _; replace hth := hth.wants hown1 hg1 hw1; replace hB4 := hB4.trans ((Kept.of_grown hg1).below (fun j _ e => (hth0.two.want.lt j e).1) hB4.size); obtain ⟨A', n', c', rfl⟩ := owns_slice hown1; clear hown1 hg1 hw1 hth0 hrow4)
        have hS := hB4.drew
        replace hth := hth.below (Below.refl _ _).drew
        have hc2 : ∀ W1, Below w.heap.size w W1 → W1.cell? ⟨b, off + k * 4 + 2, none⟩ = some (.int .u64 o.n) := fun W1 hW1 => ((hl k o HO.out).below hW1).c2
        have HC := Lib.hid hc2
        clear hc2 hB4
        refine wp_held (fun W1 => Below w.heap.size w W1) (by kernel_rfl) ?_
        refine wpAnyH_next (i := 0) (v := .slice (some ⟨b, off, none⟩) l.length cap) rfl (by kernel_rfl) (by kernel_rfl) (by kernel_rfl) (fun _ _ _ h => h) (by kernel_rfl) (fun W1 hW1 => by go_simp) hS (fun a' ha' => ?_)
        simp only [Act.put, List.getElem_toArray, List.getElem_cons_zero, List.setIfInBounds_toArray, List.set_cons_succ, List.set_cons_zero] at ha'
        subst ha'
        refine wpAnyH_next (i := 1) (v := .int .i64 (k : Int)) rfl (by kernel_rfl) (by kernel_rfl) (by kernel_rfl) (fun _ _ _ h => h) (by kernel_rfl) (fun W1 hW1 => by go_simp) hS (fun a' ha' => ?_)
        simp only [Act.put, List.getElem_toArray, List.getElem_cons_succ, List.getElem_cons_zero, List.setIfInBounds_toArray, List.set_cons_succ, List.set_cons_zero] at ha'
        subst ha'
        refine wpAnyH_next (i := 2) (v := .pointer (some ⟨b, off + k * 4, none⟩)) rfl (by kernel_rfl) (by kernel_rfl) (by kernel_rfl) (fun _ _ _ h => h) (by kernel_rfl) (fun W1 hW1 => by go_simp) hS (fun a' ha' => ?_)
        simp only [Act.put, List.getElem_toArray, List.getElem_cons_succ, List.getElem_cons_zero, List.setIfInBounds_toArray, List.set_cons_succ, List.set_cons_zero] at ha'
        subst ha'
        refine wpAnyH_next (i := 3) (v := .pointer (some ⟨b, off + k * 4 + 2, none⟩)) rfl (by kernel_rfl) (by kernel_rfl) (by kernel_rfl) (fun _ _ _ h => h) (by kernel_rfl) (fun W1 hW1 => by go_simp) hS (fun a' ha' => ?_)
        simp only [Act.put, List.getElem_toArray, List.getElem_cons_succ, List.getElem_cons_zero, List.setIfInBounds_toArray, List.set_cons_succ, List.set_cons_zero] at ha'
        subst ha'
        refine wpAnyH_next (i := 4) (v := .int .u64 (o.n : Int)) rfl (by kernel_rfl) (by kernel_rfl) (by kernel_rfl) (fun _ _ _ h => h) (by kernel_rfl) (fun W1 hW1 => by have h := HC.out W1 hW1; go_simp) hS (fun a' ha' => ?_)
        simp only [Act.put, List.getElem_toArray, List.getElem_cons_succ, List.getElem_cons_zero, List.setIfInBounds_toArray, List.set_cons_succ, List.set_cons_zero] at ha'
        subst ha'
        refine wpAnyH_want (i := 5) (by kernel_rfl) rfl (by kernel_rfl) (fun K hK => ?_)
        unfold Oper.wp
        go_simp
        refine (SinkNumber_any _ o.n hop.small _ _ _ w.heap.size hS.size hth.two.sink (by omega)).mono ?_
        rintro e w42 ⟨rfl, h42⟩
        replace hS := hS.trans (h42.below hth.two.sink hS.size (Nat.le_refl _))
        obtain ⟨v5, hth5'⟩ := hth.writes h42
        have hth5 : Three w42 w.heap.size w.heap.size v5 (.slice A' n' c') (.slice Ao o.bs.length co) (wrote (l.take (k + 1))) (wrote (l.take (k + 1))) o.bs := by rw [wrote_take_succ l k o HO.out, HOB.out]; exact hth5'
        refine hK _ _ hS ?_
        clear hK K h42 hth5' hth
        refine wpAnyH_next (i := 6) (v := .bool true) rfl (by kernel_rfl) (by kernel_rfl) (by kernel_rfl) (fun _ _ _ h => h) (by kernel_rfl) (fun W1 hW1 => by go_simp) hS (fun a' ha' => ?_)
        simp only [Act.put, List.getElem_toArray, List.getElem_cons_succ, List.getElem_cons_zero, List.setIfInBounds_toArray, List.set_cons_succ, List.set_cons_zero] at ha'
        subst ha'
        refine wpAnyH_next (i := 7) (v := .bool true) rfl (by kernel_rfl) (by kernel_rfl) (by kernel_rfl) (fun _ _ _ h => h) (by kernel_rfl) (fun W1 hW1 => by go_simp) hS (fun a' ha' => ?_)
        simp only [Act.put, List.getElem_toArray, List.getElem_cons_succ, List.getElem_cons_zero, List.setIfInBounds_toArray, List.set_cons_succ, List.set_cons_zero] at ha'
        subst ha'
        refine wpAnyH_next (i := 8) (v := .slice (some ⟨b, off, none⟩) l.length cap) rfl (by kernel_rfl) (by kernel_rfl) (by kernel_rfl) (fun _ _ _ h => h) (by kernel_rfl) (fun W1 hW1 => by go_simp) hS (fun a' ha' => ?_)
        simp only [Act.put, List.getElem_toArray, List.getElem_cons_succ, List.getElem_cons_zero, List.setIfInBounds_toArray, List.set_cons_succ, List.set_cons_zero] at ha'
        subst ha'
        refine wpAnyH_next (i := 9) (v := .int .i64 (k : Int)) rfl (by kernel_rfl) (by kernel_rfl) (by kernel_rfl) (fun _ _ _ h => h) (by kernel_rfl) (fun W1 hW1 => by go_simp) hS (fun a' ha' => ?_)
        simp only [Act.put, List.getElem_toArray, List.getElem_cons_succ, List.getElem_cons_zero, List.setIfInBounds_toArray, List.set_cons_succ, List.set_cons_zero] at ha'
        subst ha'
        refine wpAnyH_next (i := 10) (v := .pointer (some ⟨b, off + k * 4, none⟩)) rfl (by kernel_rfl) (by kernel_rfl) (by kernel_rfl) (fun _ _ _ h => h) (by kernel_rfl) (fun W1 hW1 => by go_simp) hS (fun a' ha' => ?_)
        simp only [Act.put, List.getElem_toArray, List.getElem_cons_succ, List.getElem_cons_zero, List.setIfInBounds_toArray, List.set_cons_succ, List.set_cons_zero] at ha'
        subst ha'
        refine wpAnyH_next (i := 11) (v := .pointer (some ⟨b, off + k * 4 + 2, none⟩)) rfl (by kernel_rfl) (by kernel_rfl) (by kernel_rfl) (fun _ _ _ h => h) (by kernel_rfl) (fun W1 hW1 => by go_simp) hS (fun a' ha' => ?_)
        simp only [Act.put, List.getElem_toArray, List.getElem_cons_succ, List.getElem_cons_zero, List.setIfInBounds_toArray, List.set_cons_succ, List.set_cons_zero] at ha'
        subst ha'
        refine wpAnyH_next (i := 12) (v := .int .u64 (o.n : Int)) rfl (by kernel_rfl) (by kernel_rfl) (by kernel_rfl) (fun _ _ _ h => h) (by kernel_rfl) (fun W1 hW1 => by have h := HC.out W1 hW1; go_simp) hS (fun a' ha' => ?_)
        simp only [Act.put, List.getElem_toArray, List.getElem_cons_succ, List.getElem_cons_zero, List.setIfInBounds_toArray, List.set_cons_succ, List.set_cons_zero] at ha'
        subst ha'
        refine wpAnyH_next (i := 14) (v := .slice (some ⟨b, off, none⟩) l.length cap) rfl (by kernel_rfl) (by kernel_rfl) (by kernel_rfl) (fun _ _ _ h => h) (by kernel_rfl) (fun W1 hW1 => by go_simp) hS (fun a' ha' => ?_)
        simp only [Act.put, List.getElem_toArray, List.getElem_cons_succ, List.getElem_cons_zero, List.setIfInBounds_toArray, List.set_cons_succ, List.set_cons_zero] at ha'
        subst ha'
        refine wpAnyH_next (i := 15) (v := .int .i64 (k : Int)) rfl (by kernel_rfl) (by kernel_rfl) (by kernel_rfl) (fun _ _ _ h => h) (by kernel_rfl) (fun W1 hW1 => by go_simp) hS (fun a' ha' => ?_)
        simp only [Act.put, List.getElem_toArray, List.getElem_cons_succ, List.getElem_cons_zero, List.setIfInBounds_toArray, List.set_cons_succ, List.set_cons_zero] at ha'
        subst ha'
        refine wpAnyH_next (i := 16) (v := .pointer (some ⟨b, off + k * 4, none⟩)) rfl (by kernel_rfl) (by kernel_rfl) (by kernel_rfl) (fun _ _ _ h => h) (by kernel_rfl) (fun W1 hW1 => by go_simp) hS (fun a' ha' => ?_)
        simp only [Act.put, List.getElem_toArray, List.getElem_cons_succ, List.getElem_cons_zero, List.setIfInBounds_toArray, List.set_cons_succ, List.set_cons_zero] at ha'
        subst ha'
        refine wpAnyH_next (i := 17) (v := .pointer (some ⟨b, off + k * 4 + 2, none⟩)) rfl (by kernel_rfl) (by kernel_rfl) (by kernel_rfl) (fun _ _ _ h => h) (by kernel_rfl) (fun W1 hW1 => by go_simp) hS (fun a' ha' => ?_)
        simp only [Act.put, List.getElem_toArray, List.getElem_cons_succ, List.getElem_cons_zero, List.setIfInBounds_toArray, List.set_cons_succ, List.set_cons_zero] at ha'
        subst ha'
        refine wpAnyH_next (i := 18) (v := .int .u64 (o.n : Int)) rfl (by kernel_rfl) (by kernel_rfl) (by kernel_rfl) (fun _ _ _ h => h) (by kernel_rfl) (fun W1 hW1 => by have h := HC.out W1 hW1; go_simp) hS (fun a' ha' => ?_)
        simp only [Act.put, List.getElem_toArray, List.getElem_cons_succ, List.getElem_cons_zero, List.setIfInBounds_toArray, List.set_cons_succ, List.set_cons_zero] at ha'
        subst ha'
        refine wpAnyH_want (i := 13) (by kernel_rfl) rfl (by kernel_rfl) (fun K hK => ?_)
        unfold Oper.wp
        go_simp
        refine (Size_any o.n hop.small _).mono ?_
        rintro e w43 ⟨rfl, h43⟩
        replace hS := hS.trans (h43.mono hS.size)
        replace hth5 := hth5.below h43
        refine hK _ _ hS ?_
        clear hK K h43
        refine wpAnyH_want (i := 19) (by kernel_rfl) rfl (by kernel_rfl) (fun K hK => ?_)
        unfold Oper.wp
        go_simp
        refine (rNumber_any o.n hop.small _).mono ?_
        rintro e w5 ⟨v44, rfl, hrow44, h44⟩
        replace hS := hS.trans (h44.mono hS.size)
        replace hth5 := hth5.below h44
        obtain ⟨A44, c44, rfl, hc44⟩ := (Bs.of_owns hrow44).form
        refine hK _ _ hS ?_
        clear hK K h44 hrow44
        refine wpAnyH_next (i := 20) (v := .int .i64 ((lebB o.n).length : Int)) rfl (by kernel_rfl) (by kernel_rfl) (by kernel_rfl) (fun _ _ _ h => h) (by kernel_rfl) (fun W1 hW1 => by go_simp) hS (fun a' ha' => ?_)
        simp only [Act.put, List.getElem_toArray, List.getElem_cons_succ, List.getElem_cons_zero, List.setIfInBounds_toArray, List.set_cons_succ, List.set_cons_zero] at ha'
        subst ha'
        refine wpAnyH_next (i := 21) (v := .bool true) rfl (by kernel_rfl) (by kernel_rfl) (by kernel_rfl) (fun _ _ _ h => h) (by kernel_rfl) (fun W1 hW1 => by go_simp) hS (fun a' ha' => ?_)
        simp only [Act.put, List.getElem_toArray, List.getElem_cons_succ, List.getElem_cons_zero, List.setIfInBounds_toArray, List.set_cons_succ, List.set_cons_zero] at ha'
        subst ha'
        refine wpAnyH_next (i := 22) (v := .bool true) rfl (by kernel_rfl) (by kernel_rfl) (by kernel_rfl) (fun _ _ _ h => h) (by kernel_rfl) (fun W1 hW1 => by go_simp) hS (fun a' ha' => ?_)
        simp only [Act.put, List.getElem_toArray, List.getElem_cons_succ, List.getElem_cons_zero, List.setIfInBounds_toArray, List.set_cons_succ, List.set_cons_zero] at ha'
        subst ha'
        refine wpAnyH_next (i := 23) (v := .bool true) rfl (by kernel_rfl) (by kernel_rfl) (by kernel_rfl) (fun _ _ _ h => h) (by kernel_rfl) (fun W1 hW1 => by go_simp) hS (fun a' ha' => ?_)
        simp only [Act.put, List.getElem_toArray, List.getElem_cons_succ, List.getElem_cons_zero, List.setIfInBounds_toArray, List.set_cons_succ, List.set_cons_zero] at ha'
        subst ha'
        refine wpAnyH_fin (by kernel_rfl) ?_ _
        have hB5 := hS
        clear hS HC
        go_wp2_with fail
      case' k1 =>
        have hk0' : (o.kind == 0) = false := by simp [hk0]
        have hk1' : (o.kind == 1) = true := by simp [hk0]
        have hob : opBytes o = lebB o.bs.length ++ o.bs := by simp [opBytes, hk0]
        have HOB := Lib.hid hob
        have hlb := lebB_u64 (n := o.bs.length) (by omega)
        clear hob hk0
        go_wp2_with fail
        refine (rBytes_any _ _ o.bs (HBS.out.below hB3) (by omega)).mono ?_
        rintro e w4 ⟨v4, rfl, hrow4, hb4⟩
        replace hth := hth.below hb4
        have hB4 := hB3.trans (hb4.mono hB3.size)
        obtain ⟨A4, n4, c4, rfl⟩ := owns_slice hrow4
        clear hb4 hB3 c0 c2 c3
        have hth0 := hth
        go_wp2_with (at_builtin; refine wpList_append_bs rfl (.tmp 64) (.tmp 70) 24 rfl w.heap.size 5 i0 Try.underlying24 hi hz0 hz1 hz2 _ (wrote (l.take k)) rfl hth.two.want _ (lebB o.bs.length ++ o.bs) rfl (Bs.of_owns hrow4) (by simp only [List.length_append]; omega) hB4.size ?_; intro v' w41 hown1 hg1 hw1 _ _; replace hth := hth.wants hown1 hg1 hw1; replace hB4 := hB4.trans ((Kept.of_grown hg1).below (fun j _ e => (hth0.two.want.lt j e).1) hB4.size); obtain ⟨A', n', c', rfl⟩ := owns_slice hown1; clear hown1 hg1 hw1 hth0 hrow4)
        refine (SinkBytes_any _ _ _ _ w.heap.size hB4.size hth.two.sink _ o.bs (Bs.of_owns hth.own) (fun _ j hj => ⟨fun e => hth.g_own (e ▸ hj), hth.ov j hj⟩) (by omega)).mono ?_
        rintro e w5 ⟨rfl, h5⟩
        have hB5 := hB4.trans (h5.below hth.two.sink hB4.size (Nat.le_refl _))
        obtain ⟨v5, hth5'⟩ := hth.writes h5
        have hth5 : Three w5 w.heap.size w.heap.size v5 (.slice A' n' c') (.slice Ao o.bs.length co) (wrote (l.take (k + 1))) (wrote (l.take (k + 1))) o.bs := by rw [wrote_take_succ l k o HO.out, HOB.out]; exact hth5'
        clear hB4 h5 hth hth5'
        go_wp2_with fail
      case' k2 =>
        have hk0' : (o.kind == 0) = false := by simp [hk0]
        have hk1' : (o.kind == 1) = false := by simp [hk0]
        have hk2' : (o.kind == 2) = true := by simp [hk0]
        have hob : opBytes o = o.bs := by simp [opBytes, hk0]
        have HOB := Lib.hid hob
        have hB4 := hB3
        clear hob hk0 hB3
        have hth0 := hth
        go_wp2_with (at_builtin; refine wpList_append_bs rfl (.tmp 77) (.tmp 82) 24 rfl w.heap.size 5 i0 Try.underlying24 hi hz0 hz1 hz2 _ (wrote (l.take k)) rfl hth.two.want _ (o.bs) rfl (HBS.out.below hB4) (by omega) hB4.size ?_; intro v' w41 hown1 hg1 hw1 _ _; replace hth := hth.wants hown1 hg1 hw1; replace hB4 := hB4.trans ((Kept.of_grown hg1).below (fun j _ e => (hth0.two.want.lt j e).1) hB4.size); obtain ⟨A', n', c', rfl⟩ := owns_slice hown1; clear hown1 hg1 hw1 hth0)
        refine (SinkRaw_any _ _ _ _ w.heap.size hB4.size hth.two.sink _ o.bs (Bs.of_owns hth.own) (by omega)).mono ?_
        rintro e w5 ⟨rfl, h5⟩
        have hB5 := hB4.trans (h5.below hth.two.sink hB4.size (Nat.le_refl _))
        obtain ⟨v5, hth5'⟩ := hth.writes h5
        have hth5 : Three w5 w.heap.size w.heap.size v5 (.slice A' n' c') (.slice Ao o.bs.length co) (wrote (l.take (k + 1))) (wrote (l.take (k + 1))) o.bs := by rw [wrote_take_succ l k o HO.out, HOB.out]; exact hth5'
        clear hB4 h5 hth hth5' c0 c2 c3
        go_wp2_with fail
      case' k3 =>
        obtain ⟨hk0, hk1, hk2⟩ := hk0
        have hk0' : (o.kind == 0) = false := by simp [hk0]
        have hk1' : (o.kind == 1) = false := by simp [hk1]
        have hk2' : (o.kind == 2) = false := by simp [hk2]
        have hob : opBytes o = [] := by simp [opBytes, hk0, hk1, hk2]
        have hth5 : Three w3 w.heap.size w.heap.size v (.slice Au nu cu) (.slice Ao o.bs.length co) (wrote (l.take (k + 1))) (wrote (l.take (k + 1))) o.bs := by rw [wrote_take_succ l k o HO.out, hob, List.append_nil]; exact hth
        have hB5 := hB3
        clear hob hk0 hk1 hk2 hth
        go_wp2_with fail
        obtain ⟨w5, hw5⟩ : ∃ x, x = w3 := ⟨_, rfl⟩
        subst hw5
        clear hB3 c0 c2 c3
      all_goals
        clear hop
        have hS : Below w.heap.size w w5.drew ∧ Row w5.drew w.heap.size (.slice Ao o.bs.length co) o.bs := ⟨hB5.drew, hth5.own⟩
        have hth6 := hth5.below (Below.refl _ _).drew
        have hcv : ∀ W1, (Below w.heap.size w W1 ∧ Row W1 w.heap.size (.slice Ao o.bs.length co) o.bs) → (convert 24 9 (.slice Ao o.bs.length co)).run Try.prog W1 = .ok (Str o.bs) W1 ∧ (convert 24 9 (.slice A o.bs.length c)).run Try.prog W1 = .ok (Str o.bs) W1 ∧ W1.cell? ⟨b, off + k * 4 + 3, none⟩ = some (.slice A o.bs.length c) := fun W1 hW1 =>
          ⟨run_string_bs W1 24 9 5 Try.underlying24 Try.underlying5 Try.underlying9 (Bs.of_owns hW1.2), run_string_bs W1 24 9 5 Try.underlying24 Try.underlying5 Try.underlying9 (HBS.out.below hW1.1), by rw [← HV.out]; exact ((hl k o HO.out).below hW1.1).c3⟩
        have HCV := Lib.hid hcv
        clear hcv
        refine wp_held (fun W1 => Below w.heap.size w W1 ∧ Row W1 w.heap.size (.slice Ao o.bs.length co) o.bs) (by kernel_rfl) ?_
        refine wpAnyH_next (i := 0) (v := .bool true) rfl (by kernel_rfl) (by kernel_rfl) (by kernel_rfl) (fun _ _ _ h => h) (by kernel_rfl) (fun W1 hW1 => by go_simp) hS (fun a' ha' => ?_)
        simp only [Act.put, List.getElem_toArray, List.getElem_cons_zero, List.setIfInBounds_toArray, List.set_cons_succ, List.set_cons_zero] at ha'
        subst ha'
        refine wpAnyH_next (i := 1) (v := .bool false) rfl (by kernel_rfl) (by kernel_rfl) (by kernel_rfl) (fun _ _ _ h => h) (by kernel_rfl) (fun W1 hW1 => by go_simp) hS (fun a' ha' => ?_)
        simp only [Act.put, List.getElem_toArray, List.getElem_cons_succ, List.getElem_cons_zero, List.setIfInBounds_toArray, List.set_cons_succ, List.set_cons_zero] at ha'
        subst ha'
        refine wpAnyH_next (i := 2) (v := .bool false) rfl (by kernel_rfl) (by kernel_rfl) (by kernel_rfl) (fun _ _ _ h => h) (by kernel_rfl) (fun W1 hW1 => by go_simp) hS (fun a' ha' => ?_)
        simp only [Act.put, List.getElem_toArray, List.getElem_cons_succ, List.getElem_cons_zero, List.setIfInBounds_toArray, List.set_cons_succ, List.set_cons_zero] at ha'
        subst ha'
        refine wpAnyH_next (i := 3) (v := .slice Ao o.bs.length co) rfl (by kernel_rfl) (by kernel_rfl) (by kernel_rfl) (fun _ _ _ h => h) (by kernel_rfl) (fun W1 hW1 => by go_simp) hS (fun a' ha' => ?_)
        simp only [Act.put, List.getElem_toArray, List.getElem_cons_succ, List.getElem_cons_zero, List.setIfInBounds_toArray, List.set_cons_succ, List.set_cons_zero] at ha'
        subst ha'
        refine wpAnyH_next (i := 4) (v := Str o.bs) rfl (by kernel_rfl) (by kernel_rfl) (by kernel_rfl) (fun _ _ _ h => h) (by kernel_rfl) (fun W1 hW1 => by obtain ⟨h1, h2, h3⟩ := HCV.out W1 hW1; go_simp) hS (fun a' ha' => ?_)
        simp only [Act.put, List.getElem_toArray, List.getElem_cons_succ, List.getElem_cons_zero, List.setIfInBounds_toArray, List.set_cons_succ, List.set_cons_zero] at ha'
        subst ha'
        refine wpAnyH_next (i := 5) (v := .slice (some ⟨b, off, none⟩) l.length cap) rfl (by kernel_rfl) (by kernel_rfl) (by kernel_rfl) (fun _ _ _ h => h) (by kernel_rfl) (fun W1 hW1 => by go_simp) hS (fun a' ha' => ?_)
        simp only [Act.put, List.getElem_toArray, List.getElem_cons_succ, List.getElem_cons_zero, List.setIfInBounds_toArray, List.set_cons_succ, List.set_cons_zero] at ha'
        subst ha'
        refine wpAnyH_next (i := 6) (v := .int .i64 (k : Int)) rfl (by kernel_rfl) (by kernel_rfl) (by kernel_rfl) (fun _ _ _ h => h) (by kernel_rfl) (fun W1 hW1 => by go_simp) hS (fun a' ha' => ?_)
        simp only [Act.put, List.getElem_toArray, List.getElem_cons_succ, List.getElem_cons_zero, List.setIfInBounds_toArray, List.set_cons_succ, List.set_cons_zero] at ha'
        subst ha'
        refine wpAnyH_next (i := 7) (v := .pointer (some ⟨b, off + k * 4, none⟩)) rfl (by kernel_rfl) (by kernel_rfl) (by kernel_rfl) (fun _ _ _ h => h) (by kernel_rfl) (fun W1 hW1 => by go_simp) hS (fun a' ha' => ?_)
        simp only [Act.put, List.getElem_toArray, List.getElem_cons_succ, List.getElem_cons_zero, List.setIfInBounds_toArray, List.set_cons_succ, List.set_cons_zero] at ha'
        subst ha'
        refine wpAnyH_next (i := 8) (v := .pointer (some ⟨b, off + k * 4 + 3, none⟩)) rfl (by kernel_rfl) (by kernel_rfl) (by kernel_rfl) (fun _ _ _ h => h) (by kernel_rfl) (fun W1 hW1 => by go_simp) hS (fun a' ha' => ?_)
        simp only [Act.put, List.getElem_toArray, List.getElem_cons_succ, List.getElem_cons_zero, List.setIfInBounds_toArray, List.set_cons_succ, List.set_cons_zero] at ha'
        subst ha'
        refine wpAnyH_next (i := 9) (v := .slice A o.bs.length c) rfl (by kernel_rfl) (by kernel_rfl) (by kernel_rfl) (fun _ _ _ h => h) (by kernel_rfl) (fun W1 hW1 => by obtain ⟨h1, h2, h3⟩ := HCV.out W1 hW1; go_simp) hS (fun a' ha' => ?_)
        simp only [Act.put, List.getElem_toArray, List.getElem_cons_succ, List.getElem_cons_zero, List.setIfInBounds_toArray, List.set_cons_succ, List.set_cons_zero] at ha'
        subst ha'
        refine wpAnyH_next (i := 10) (v := Str o.bs) rfl (by kernel_rfl) (by kernel_rfl) (by kernel_rfl) (fun _ _ _ h => h) (by kernel_rfl) (fun W1 hW1 => by obtain ⟨h1, h2, h3⟩ := HCV.out W1 hW1; go_simp) hS (fun a' ha' => ?_)
        simp only [Act.put, List.getElem_toArray, List.getElem_cons_succ, List.getElem_cons_zero, List.setIfInBounds_toArray, List.set_cons_succ, List.set_cons_zero] at ha'
        subst ha'
        refine wpAnyH_next (i := 11) (v := .bool false) rfl (by kernel_rfl) (by kernel_rfl) (by kernel_rfl) (fun _ _ _ h => h) (by kernel_rfl) (fun W1 hW1 => by go_simp) hS (fun a' ha' => ?_)
        simp only [Act.put, List.getElem_toArray, List.getElem_cons_succ, List.getElem_cons_zero, List.setIfInBounds_toArray, List.set_cons_succ, List.set_cons_zero] at ha'
        subst ha'
        refine wpAnyH_next (i := 12) (v := .bool false) rfl (by kernel_rfl) (by kernel_rfl) (by kernel_rfl) (fun _ _ _ h => h) (by kernel_rfl) (fun W1 hW1 => by go_simp) hS (fun a' ha' => ?_)
        simp only [Act.put, List.getElem_toArray, List.getElem_cons_succ, List.getElem_cons_zero, List.setIfInBounds_toArray, List.set_cons_succ, List.set_cons_zero] at ha'
        subst ha'
        refine wpAnyH_fin (by kernel_rfl) ?_ _
        have hB6 := hS.1
        clear hS HCV hth5 hB5
        generalize w5.drew = w6 at *
        go_wp2_with fail
        go_loopw [102] (fun i wr2 => ∃ (q : Nat) (zs : List UInt8), q ≤ o.bs.length ∧ i = .int .i64 q ∧ zs.length = o.bs.length ∧ Row wr2 w.heap.size (.slice Ao o.bs.length co) zs ∧ Kept (fun j => (Value.slice Ao o.bs.length co).ownBlock = some j) w6 wr2) (fun i _ => o.bs.length - (intOf i).toNat)
        case atStart => exact ⟨0, o.bs, Nat.zero_le _, rfl, rfl, hth6.own, Kept.refl _ _⟩
        case round =>
          obtain ⟨q, zs, hq, rfl, hzl, hrow, hkp⟩ := hrel
          by_cases hql : q < o.bs.length
          · obtain ⟨y, hy⟩ : ∃ y, zs[q]? = some y := ⟨zs[q], List.getElem?_eq_getElem (by omega)⟩
            obtain ⟨go, hA, _⟩ := row_at hrow (by omega)
            subst hA
            have hrow' : Row wr w.heap.size (.slice (some ⟨go, 0, none⟩) zs.length co) zs := by rw [hzl]; exact hrow
            have cq := row_cell hrow' hy
            have fq := hrow'.frozenAt q
            have hset := row_set hrow' (q := q) (y + 1)
            rw [inc_u8, hzl] at hset
            have HSET := Lib.hid hset
            have HZL := Lib.hid hzl
            clear hset hzl hy hrow hrow'
            go_wp2_with fail
            go_roundw
            case rel => exact ⟨q + 1, zs.set q (y + 1), by omega, by go_num, by rw [List.length_set]; exact HZL.out, HSET.out, hkp.setCell (p := ⟨go, q, none⟩) (fun _ => rfl) _⟩
            case measure => simp [intOf]; omega
          · clear hrow hzl
            have htw7 := hth6.turned hkp
            have hB7 := hB6.trans (hkp.below (fun j _ t => (hth6.own.lt j t).1) hB6.size)
            clear hth6 hkp hB6
            go_wp2_with fail
            refine (SinkAll_any _ _ _ _ _ htw7.sink (by omega)).mono ?_
            rintro e w8 ⟨r8, rfl, hrow8, hb8⟩
            have hth8 := Three.start htw7 hB7.size hrow8 hb8
            have hB8 := hB7.trans (hb8.mono hB7.size)
            have hcv1 := run_string_bs (P := Try.prog) w8 24 9 5 Try.underlying24 Try.underlying5 Try.underlying9 (Bs.of_owns hth8.own)
            have hcv2 := run_string_bs (P := Try.prog) w8 24 9 5 Try.underlying24 Try.underlying5 Try.underlying9 (Bs.of_owns hth8.two.want)
            obtain ⟨A8, c8, rfl, hc8⟩ := (Bs.of_owns hrow8).form
            clear hrow8 hb8 htw7 hB7
            go_wp2_with fail
            go_loopw [120] (fun i wr3 => ∃ (q : Nat) (zs : List UInt8), q ≤ (wrote (l.take (k + 1))).length ∧ i = .int .i64 q ∧ zs.length = (wrote (l.take (k + 1))).length ∧ Row wr3 w.heap.size (.slice A8 (wrote (l.take (k + 1))).length c8) zs ∧ Kept (fun j => (Value.slice A8 (wrote (l.take (k + 1))).length c8).ownBlock = some j) w8 wr3) (fun i _ => (wrote (l.take (k + 1))).length - (intOf i).toNat)
            case atStart => exact ⟨0, _, Nat.zero_le _, rfl, rfl, hth8.own, Kept.refl _ _⟩
            case round =>
              clear hcv1 hcv2
              obtain ⟨q, zs, hq, rfl, hzl, hrow, hkp⟩ := hrel
              by_cases hql : q < (wrote (l.take (k + 1))).length
              · obtain ⟨y, hy⟩ : ∃ y, zs[q]? = some y := ⟨zs[q], List.getElem?_eq_getElem (by omega)⟩
                obtain ⟨go, hA, _⟩ := row_at hrow (by omega)
                subst hA
                have hrow' : Row wr w.heap.size (.slice (some ⟨go, 0, none⟩) zs.length c8) zs := by rw [hzl]; exact hrow
                have cq := row_cell hrow' hy
                have fq := hrow'.frozenAt q
                have hset := row_set hrow' (q := q) (y + 1)
                rw [inc_u8, hzl] at hset
                have HSET := Lib.hid hset
                have HZL := Lib.hid hzl
                clear hset hzl hy hrow hrow'
                go_wp2_with fail
                go_roundw
                case rel => exact ⟨q + 1, zs.set q (y + 1), by omega, by go_num, by rw [List.length_set]; exact HZL.out, HSET.out, hkp.setCell (p := ⟨go, q, none⟩) (fun _ => rfl) _⟩
                case measure => simp [intOf]; omega
              · clear hrow hzl
                have htw9 := hth8.turned hkp
                have hB9 := hB8.trans (hkp.below (fun j _ t => (hth8.own.lt j t).1) hB8.size)
                clear hth8 hkp hB8
                go_wp2_with fail
                go_roundw
                case rel => exact ⟨k + 1, _, by omega, by go_num, htw9, hB9⟩
                case measure => simp [intOf]; omega
    · obtain rfl : k = l.length := by omega
      rw [List.take_length] at htw
      have hwl1 : (wrote l).length ≤ 21000 := by rw [List.take_length] at hwl; omega
      clear hwl htm
      have hS : Below w.heap.size w wr.drew ∧ Two wr.drew w.heap.size w.heap.size v (.slice Au nu cu) (wrote l) (wrote l) := ⟨hB.drew, htw.below (Below.refl _ _).drew⟩
      have hcv : ∀ W1, (Below w.heap.size w W1 ∧ Two W1 w.heap.size w.heap.size v (.slice Au nu cu) (wrote l) (wrote l)) → (convert 24 9 (.slice Au nu cu)).run Try.prog W1 = .ok (Str (wrote l)) W1 := fun W1 hW1 =>
        run_string_bs W1 24 9 5 Try.underlying24 Try.underlying5 Try.underlying9 (Bs.of_owns hW1.2.want)
      have HCV := Lib.hid hcv
      clear htw hB hcv
      go_wp2_with fail
      refine wp_held (fun W1 => (Below w.heap.size w W1 ∧ Two W1 w.heap.size w.heap.size v (.slice Au nu cu) (wrote l) (wrote l))) (by kernel_rfl) ?_
      refine wpAnyH_next (i := 2) (v := .slice Au nu cu) rfl (by kernel_rfl) (by kernel_rfl) (by kernel_rfl) (fun _ _ _ h => h) (by kernel_rfl) (fun W1 hW1 => by go_simp) hS (fun a' ha' => ?_)
      simp only [Act.put, List.getElem_toArray, List.getElem_cons_succ, List.getElem_cons_zero, List.setIfInBounds_toArray, List.set_cons_succ, List.set_cons_zero] at ha'
      subst ha'
      refine wpAnyH_next (i := 3) (v := Str (wrote l)) rfl (by kernel_rfl) (by kernel_rfl) (by kernel_rfl) (fun _ _ _ h => h) (by kernel_rfl) (fun W1 hW1 => by have h := HCV.out W1 hW1; go_simp) hS (fun a' ha' => ?_)
      simp only [Act.put, List.getElem_toArray, List.getElem_cons_succ, List.getElem_cons_zero, List.setIfInBounds_toArray, List.set_cons_succ, List.set_cons_zero] at ha'
      subst ha'
      refine wpAnyH_want (i := 0) (by kernel_rfl) rfl (by kernel_rfl) (fun K hK => ?_)
      unfold Oper.wp
      go_simp
      refine (SinkAll_any _ _ _ _ _ hS.2.sink (by omega)).mono ?_
      rintro e w8 ⟨r8, rfl, hrow8, hb8⟩
      replace hS := And.intro (hS.1.trans (hb8.mono hS.1.size)) (hS.2.below hb8)
      have hcv1 := run_string_bs (P := Try.prog) w8 24 9 5 Try.underlying24 Try.underlying5 Try.underlying9 (Bs.of_owns hrow8)
      obtain ⟨A8, c8, rfl, hc8⟩ := (Bs.of_owns hrow8).form
      refine hK _ _ hS ?_
      clear hK K hrow8 hb8
      refine wpAnyH_want (i := 1) (by kernel_rfl) rfl (by kernel_rfl) (fun K hK => ?_)
      unfold Oper.wp
      go_simp
      refine hK _ _ hS ?_
      clear hK K hcv1
      refine wpAnyH_next (i := 4) (v := .bool true) rfl (by kernel_rfl) (by kernel_rfl) (by kernel_rfl) (fun _ _ _ h => h) (by kernel_rfl) (fun W1 hW1 => by go_simp) hS (fun a' ha' => ?_)
      simp only [Act.put, List.getElem_toArray, List.getElem_cons_succ, List.getElem_cons_zero, List.setIfInBounds_toArray, List.set_cons_succ, List.set_cons_zero] at ha'
      subst ha'
      refine wpAnyH_next (i := 5) (v := .bool true) rfl (by kernel_rfl) (by kernel_rfl) (by kernel_rfl) (fun _ _ _ h => h) (by kernel_rfl) (fun W1 hW1 => by go_simp) hS (fun a' ha' => ?_)
      simp only [Act.put, List.getElem_toArray, List.getElem_cons_succ, List.getElem_cons_zero, List.setIfInBounds_toArray, List.set_cons_succ, List.set_cons_zero] at ha'
      subst ha'
      refine wpAnyH_fin (by kernel_rfl) ?_ _
      go_wp2
      go_ret
      exact ⟨rfl, hS.1⟩

set_option maxHeartbeats 400000 in
theorem writes_great (A : Option Addr) (n cap : Nat) (w : World) (hg : ∀ w', Below w.heap.size w w' → Calls Try.prog 10 #[.slice A n cap] w' fun e W' => e = .returned (.bool true) ∧ w' = W') :
    Calls Try.prog 3 #[.slice A n cap] w fun e W' => e = .returned (.bool true) ∧ Below w.heap.size w W' := by
  have HG := Lib.hid hg
  clear hg
  go_enter Try.func3, Try.ntmps3
  go_wp2_with fail
  refine (HG.out w (Below.refl _ _)).mono ?_
  rintro e w2 ⟨rfl, rfl⟩
  go_wp2
  go_ret
  exact ⟨rfl, Below.refl _ _⟩

set_option maxRecDepth 100000 in
set_option maxHeartbeats 1000000 in
theorem writes_none (A : Option Addr) (cap : Nat) (w : World) :
    Calls Try.prog 3 #[.slice A 0 cap] w fun e W' => e = .returned (.bool true) ∧ Below w.heap.size w W' := by
  go_enter Try.func3, Try.ntmps3
  go_wp2_with fail
  refine (great_nil A cap w).mono ?_
  rintro e w2 ⟨rfl, rfl⟩
  have htw0 : SinkAt (w.alloc (.cells #[.slice none 0 0] 26)) w.heap.size w.heap.size (.slice none 0 0) [] := ⟨Boxed.new w 26 (.slice none 0 0), World.ownsRow_nil _ _ _ _⟩
  have hB2 : Below w.heap.size w (w.alloc (.cells #[.slice none 0 0] 26)) := (Below.refl _ _).alloc (Nat.le_refl _) _
  go_wp2_with fail
  go_loopw [4, 15] (fun u i wr => u = .slice none 0 0 ∧ i = .int .i64 0 ∧ SinkAt wr w.heap.size w.heap.size (.slice none 0 0) [] ∧ Below w.heap.size w wr) (fun _ _ _ => 0)
  case atStart => exact ⟨rfl, rfl, htw0, hB2⟩
  case round =>
    clear htw0 hB2
    obtain ⟨rfl, rfl, hat, hB⟩ := hrel
    have hS := hB.drew
    have hat' := hat.kept (T := fun _ => False) (Kept.refl _ _).drew (fun h => h) (fun _ _ h => h)
    have hcv : ∀ W1 : World, (convert 24 9 (.slice none 0 0)).run Try.prog W1 = .ok (Str []) W1 := fun W1 =>
        run_string_bs W1 24 9 5 Try.underlying24 Try.underlying5 Try.underlying9 (Bs.nil W1)
    have HCV := Lib.hid hcv
    clear hat hB hcv
    go_wp2_with fail
    refine wp_held (fun W1 => Below w.heap.size w W1) (by kernel_rfl) ?_
    refine wpAnyH_next (i := 2) (v := .slice none 0 0) rfl (by kernel_rfl) (by kernel_rfl) (by kernel_rfl) (fun _ _ _ h => h) (by kernel_rfl) (fun W1 hW1 => by go_simp) hS (fun a' ha' => ?_)
    simp only [Act.put, List.getElem_toArray, List.getElem_cons_succ, List.getElem_cons_zero, List.setIfInBounds_toArray, List.set_cons_succ, List.set_cons_zero] at ha'
    subst ha'
    refine wpAnyH_next (i := 3) (v := Str []) rfl (by kernel_rfl) (by kernel_rfl) (by kernel_rfl) (fun _ _ _ h => h) (by kernel_rfl) (fun W1 hW1 => by have h := HCV.out W1; go_simp) hS (fun a' ha' => ?_)
    simp only [Act.put, List.getElem_toArray, List.getElem_cons_succ, List.getElem_cons_zero, List.setIfInBounds_toArray, List.set_cons_succ, List.set_cons_zero] at ha'
    subst ha'
    refine wpAnyH_want (i := 0) (by kernel_rfl) rfl (by kernel_rfl) (fun K hK => ?_)
    unfold Oper.wp
    go_simp
    refine (SinkAll_any _ _ _ _ _ hat' (by simp)).mono ?_
    rintro e w8 ⟨r8, rfl, hrow8, hb8⟩
    replace hS := hS.trans (hb8.mono hS.size)
    have hcv1 := run_string_bs (P := Try.prog) w8 24 9 5 Try.underlying24 Try.underlying5 Try.underlying9 (Bs.of_owns hrow8)
    obtain ⟨A8, c8, rfl, hc8⟩ := (Bs.of_owns hrow8).form
    simp only [List.length_nil] at hcv1
    refine hK _ _ hS ?_
    clear hK K hrow8 hb8 hat'
    refine wpAnyH_want (i := 1) (by kernel_rfl) rfl (by kernel_rfl) (fun K hK => ?_)
    unfold Oper.wp
    go_simp
    refine hK _ _ hS ?_
    clear hK K hcv1
    refine wpAnyH_next (i := 4) (v := .bool true) rfl (by kernel_rfl) (by kernel_rfl) (by kernel_rfl) (fun _ _ _ h => h) (by kernel_rfl) (fun W1 hW1 => by go_simp) hS (fun a' ha' => ?_)
    simp only [Act.put, List.getElem_toArray, List.getElem_cons_succ, List.getElem_cons_zero, List.setIfInBounds_toArray, List.set_cons_succ, List.set_cons_zero] at ha'
    subst ha'
    refine wpAnyH_next (i := 5) (v := .bool true) rfl (by kernel_rfl) (by kernel_rfl) (by kernel_rfl) (fun _ _ _ h => h) (by kernel_rfl) (fun W1 hW1 => by go_simp) hS (fun a' ha' => ?_)
    simp only [Act.put, List.getElem_toArray, List.getElem_cons_succ, List.getElem_cons_zero, List.setIfInBounds_toArray, List.set_cons_succ, List.set_cons_zero] at ha'
    subst ha'
    refine wpAnyH_fin (by kernel_rfl) ?_ _
    go_wp2
    go_ret
    exact ⟨rfl, hS⟩

/-- For all calls. -/
theorem writes_any (b off cap : Nat) (l : List OpV) (w : World) (hl : OpsAt w b off l) (hn : 0 < l.length) (hm : l.length ≤ 9223372036854775807) :
    Calls Try.prog 3 #[.slice (some ⟨b, off, none⟩) l.length cap] w fun e W' => e = .returned (.bool true) ∧ Below w.heap.size w W' := by
  by_cases h1 : l.length ≤ 100 ∧ total l ≤ 20000
  · exact writes_some b off cap l w hl hn h1.1 h1.2
  · refine writes_great _ _ _ w fun w' hb => ?_
    have h := great_any b off cap l w' (fun i o ho => (hl i o ho).below hb) hn hm
    have hg : (decide (100 < l.length) || decide (20000 < total l)) = true := by simp; omega
    rw [hg] at h
    exact h
end Go.Proofs.Ytgapabbhjocflaa
