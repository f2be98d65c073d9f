/- The walk of HashGroups (tools/genhgroups.py). -/
import Derived.Test.YtcclifnhbncfcaaHashSet
import Derived.Test.YtcclifnhbncfcaaHashHas
import Derived.Test.YtcclifnhbncfcaaHashAlive
import Derived.Test.YtcclifnhbncfcaaListStep
namespace Go.Proofs.Ytcclifnhbncfcaa
open Go.RowKit Go.Great
set_option maxRecDepth 100000

theorem setI_le (l : List (List UInt8)) : (setI l).length ≤ l.length := by
  have := setI_length l l.length (Nat.le_refl _)
  rwa [List.take_length] at this
theorem lessI_mem {l m : List (List UInt8)} {x : List UInt8} : x ∈ lessI l m ↔ x ∈ l ∧ ¬ x ∈ m := by
  unfold lessI
  rw [List.mem_filter]
  simp
theorem lessI_ss {l : List (List UInt8)} (h : SS l) (m : List (List UInt8)) : SS (lessI l m) := h.sublist List.filter_sublist
theorem lessI_self (l : List (List UInt8)) : lessI l l = [] := by
  unfold lessI
  rw [List.filter_eq_nil_iff]
  intro x hx
  simpa using hx
theorem lessI_join (l m : List (List UInt8)) (h32 : A32 l) (hs : SS l) : setI (lessI l m ++ lessI l (lessI l m)) = l := by
  have h : A32 (lessI l m ++ lessI l (lessI l m)) := fun x hx => by
    rcases List.mem_append.1 hx with h | h
    · exact h32 x (lessI_mem.1 h).1
    · exact h32 x (lessI_mem.1 h).1
  obtain ⟨h1, h2, h3⟩ := setI_spec _ h
  refine ss_ext _ _ h2 h32 h1 hs fun x => ?_
  rw [h3, List.mem_append, lessI_mem, lessI_mem]
  constructor
  · rintro (h | h)
    · exact h.1
    · exact h.1
  · intro h
    by_cases hm : x ∈ m
    · exact .inr ⟨h, fun c => (lessI_mem.1 c).2 hm⟩
    · exact .inl ⟨h, hm⟩

set_option maxRecDepth 100000 in
set_option maxHeartbeats 4000000 in
theorem groups_some (w : World) (A B : Option Addr) (c d : Nat) (l m : List (List UInt8)) (hl : Is w (.slice A l.length c) l) (hm : Is w (.slice B m.length d) m) (hll : l.length ≤ 40) (hml : m.length ≤ 40) :
    Calls Try.prog 4 #[.slice A l.length c, .slice B m.length d] w fun e W' => e = .returned (.bool true) ∧ Below w.heap.size w W' := by
  have hg1 : ¬ (40 : Int) < (l.length : Int) := by omega
  have hg2 : ¬ (40 : Int) < (m.length : Int) := by omega
  obtain ⟨S, hS⟩ : ∃ S, S = setI l := ⟨_, rfl⟩
  obtain ⟨T, hT⟩ : ∃ T, T = setI m := ⟨_, rfl⟩
  have HS := Lib.hid (hS ▸ setI_spec l hl.1)
  have HT := Lib.hid (hT ▸ setI_spec m hm.1)
  have hSl : S.length ≤ 40 := by have := setI_le l; rw [hS]; omega
  have hTl : T.length ≤ 40 := by have := setI_le m; rw [hT]; omega
  have cS : ∀ W v, Is W v l → Calls Try.prog 11 #[v] W fun e W' => ∃ v', e = .returned v' ∧ Is W' v' S ∧ Below W.heap.size W W' := fun W v h => by rw [hS]; exact hSet_any W v l h (by omega)
  have cT : ∀ W v, Is W v m → Calls Try.prog 11 #[v] W fun e W' => ∃ v', e = .returned v' ∧ Is W' v' T ∧ Below W.heap.size W W' := fun W v h => by rw [hT]; exact hSet_any W v m h (by omega)
  clear hS hT
  go_enter Try.func4, Try.ntmps4
  go_wp2_with fail
  refine (alive3_any w).mono ?_
  rintro e w1 ⟨rfl, q1⟩
  have hl1 := hl.below q1
  have hm1 := hm.below q1
  go_simp
  go_wp2_with fail
  refine (cS _ _ hl1).mono ?_
  rintro e w2 ⟨va, rfl, ha, q2⟩
  have hB2 := q1.trans (q2.mono q1.size)
  have hm2 := hm1.below q2
  have hl2 := hl1.below q2
  go_wp2_with fail
  refine (cT _ _ hm2).mono ?_
  rintro e w3 ⟨vb, rfl, hb, q3⟩
  have hB3 := hB2.trans (q3.mono hB2.size)
  have ha3 := ha.below q3
  have hl3 := hl2.below q3
  clear cS cT hl hm hl1 hm1 hm2 hl2 q1 q2 q3 hB2 ha
  obtain ⟨Aa, ca, rfl, _⟩ := ha3.form
  go_wp2_with fail
  go_loopw [35] (fun i wr => ∃ k : Nat, k ≤ S.length ∧ i = .int .i64 k ∧ Below w3.heap.size w3 wr) (fun i _ => S.length - (intOf i).toNat)
  case atStart => exact ⟨0, by omega, rfl, Below.refl _ _⟩
  case round =>
    obtain ⟨k, hk, rfl, hB⟩ := hrel
    by_cases hlt : k < S.length
    case pos =>
      obtain ⟨x, hxk⟩ : ∃ x, S[k]? = some x := ⟨_, List.getElem?_eq_getElem hlt⟩
      obtain ⟨hx32, b, off, rfl, hat⟩ := ha3.at hxk
      have hat1 := hat.below hB
      have hl4 := hl3.below hB
      have hxl : x ∈ l := (HS.out.2.2 x).1 (List.mem_of_getElem? hxk)
      have cH : ∀ W, Below wr.heap.size wr W → Calls Try.prog 12 #[.slice A l.length c, IdV x] W fun e W' => e = .returned (.bool true) ∧ Below W.heap.size W W' := fun W hW => by
        have h := rHas_any W _ l (hl4.below hW) (by omega) x hx32
        rwa [decide_eq_true hxl] at h
      have bk : (k : Int) < (S.length : Int) := by omega
      by_cases hk0 : k = 0
      case pos =>
        have hk1 : ¬ (0 : Int) < (k : Int) := by omega
        clear hxk hat hl4 hxl
        go_wp2_with (with_reducible apply held_at 8)
        unfold Held
        refine wp_held (fun W1 => Below wr.heap.size wr W1) (by kernel_rfl) ?_
        have hS0 : Below wr.heap.size wr wr.drew := (Below.refl _ wr).drew
        refine wpAnyH_next (i := 0) (v := .int .i64 (k : Int)) rfl (by kernel_rfl) (by kernel_rfl) (by kernel_rfl) (fun _ _ _ h => h) (by kernel_rfl) (fun W1 hW1 => by go_simp; done) hS0 (fun a' ha' => ?_)
        simp only [Act.put, List.getElem_toArray, List.getElem_cons_zero, List.setIfInBounds_toArray, List.set_cons_succ, List.set_cons_zero] at ha'
        subst ha'
        refine wpAnyH_next (i := 1) (v := .bool false) rfl (by kernel_rfl) (by kernel_rfl) (by kernel_rfl) (fun _ _ _ h => h) (by kernel_rfl) (fun W1 hW1 => by go_simp; done) hS0 (fun a' ha' => ?_)
        simp only [Act.put, List.getElem_toArray, List.getElem_cons_succ, List.getElem_cons_zero, List.setIfInBounds_toArray, List.set_cons_succ, List.set_cons_zero] at ha'
        subst ha'
        refine wpAnyH_next (i := 2) (v := .bool false) rfl (by kernel_rfl) (by kernel_rfl) (by kernel_rfl) (fun _ _ _ h => h) (by kernel_rfl) (fun W1 hW1 => by go_simp; done) hS0 (fun a' ha' => ?_)
        simp only [Act.put, List.getElem_toArray, List.getElem_cons_succ, List.getElem_cons_zero, List.setIfInBounds_toArray, List.set_cons_succ, List.set_cons_zero] at ha'
        subst ha'
        refine wpAnyH_skip (i := 3) rfl (by kernel_rfl) (by kernel_rfl) (by kernel_rfl) (fun _ _ _ h => h) (by kernel_rfl) hS0 (fun a' ha' => ?_)
        simp only [Act.put, List.getElem_toArray, List.getElem_cons_succ, List.getElem_cons_zero, List.setIfInBounds_toArray, List.set_cons_succ, List.set_cons_zero] at ha'
        subst ha'
        refine wpAnyH_skip (i := 4) rfl (by kernel_rfl) (by kernel_rfl) (by kernel_rfl) (fun _ _ _ h => h) (by kernel_rfl) hS0 (fun a' ha' => ?_)
        simp only [Act.put, List.getElem_toArray, List.getElem_cons_succ, List.getElem_cons_zero, List.setIfInBounds_toArray, List.set_cons_succ, List.set_cons_zero] at ha'
        subst ha'
        refine wpAnyH_skip (i := 5) rfl (by kernel_rfl) (by kernel_rfl) (by kernel_rfl) (fun _ _ _ h => h) (by kernel_rfl) hS0 (fun a' ha' => ?_)
        simp only [Act.put, List.getElem_toArray, List.getElem_cons_succ, List.getElem_cons_zero, List.setIfInBounds_toArray, List.set_cons_succ, List.set_cons_zero] at ha'
        subst ha'
        refine wpAnyH_skip (i := 6) rfl (by kernel_rfl) (by kernel_rfl) (by kernel_rfl) (fun _ _ _ h => h) (by kernel_rfl) hS0 (fun a' ha' => ?_)
        simp only [Act.put, List.getElem_toArray, List.getElem_cons_succ, List.getElem_cons_zero, List.setIfInBounds_toArray, List.set_cons_succ, List.set_cons_zero] at ha'
        subst ha'
        refine wpAnyH_skip (i := 7) rfl (by kernel_rfl) (by kernel_rfl) (by kernel_rfl) (fun _ _ _ h => h) (by kernel_rfl) hS0 (fun a' ha' => ?_)
        simp only [Act.put, List.getElem_toArray, List.getElem_cons_succ, List.getElem_cons_zero, List.setIfInBounds_toArray, List.set_cons_succ, List.set_cons_zero] at ha'
        subst ha'
        refine wpAnyH_skip (i := 8) rfl (by kernel_rfl) (by kernel_rfl) (by kernel_rfl) (fun _ _ _ h => h) (by kernel_rfl) hS0 (fun a' ha' => ?_)
        simp only [Act.put, List.getElem_toArray, List.getElem_cons_succ, List.getElem_cons_zero, List.setIfInBounds_toArray, List.set_cons_succ, List.set_cons_zero] at ha'
        subst ha'
        refine wpAnyH_skip (i := 9) rfl (by kernel_rfl) (by kernel_rfl) (by kernel_rfl) (fun _ _ _ h => h) (by kernel_rfl) hS0 (fun a' ha' => ?_)
        simp only [Act.put, List.getElem_toArray, List.getElem_cons_succ, List.getElem_cons_zero, List.setIfInBounds_toArray, List.set_cons_succ, List.set_cons_zero] at ha'
        subst ha'
        refine wpAnyH_skip (i := 10) rfl (by kernel_rfl) (by kernel_rfl) (by kernel_rfl) (fun _ _ _ h => h) (by kernel_rfl) hS0 (fun a' ha' => ?_)
        simp only [Act.put, List.getElem_toArray, List.getElem_cons_succ, List.getElem_cons_zero, List.setIfInBounds_toArray, List.set_cons_succ, List.set_cons_zero] at ha'
        subst ha'
        refine wpAnyH_skip (i := 11) rfl (by kernel_rfl) (by kernel_rfl) (by kernel_rfl) (fun _ _ _ h => h) (by kernel_rfl) hS0 (fun a' ha' => ?_)
        simp only [Act.put, List.getElem_toArray, List.getElem_cons_succ, List.getElem_cons_zero, List.setIfInBounds_toArray, List.set_cons_succ, List.set_cons_zero] at ha'
        subst ha'
        refine wpAnyH_skip (i := 12) rfl (by kernel_rfl) (by kernel_rfl) (by kernel_rfl) (fun _ _ _ h => h) (by kernel_rfl) hS0 (fun a' ha' => ?_)
        simp only [Act.put, List.getElem_toArray, List.getElem_cons_succ, List.getElem_cons_zero, List.setIfInBounds_toArray, List.set_cons_succ, List.set_cons_zero] at ha'
        subst ha'
        refine wpAnyH_skip (i := 13) rfl (by kernel_rfl) (by kernel_rfl) (by kernel_rfl) (fun _ _ _ h => h) (by kernel_rfl) hS0 (fun a' ha' => ?_)
        simp only [Act.put, List.getElem_toArray, List.getElem_cons_succ, List.getElem_cons_zero, List.setIfInBounds_toArray, List.set_cons_succ, List.set_cons_zero] at ha'
        subst ha'
        refine wpAnyH_next (i := 14) (v := .bool false) rfl (by kernel_rfl) (by kernel_rfl) (by kernel_rfl) (fun _ _ _ h => h) (by kernel_rfl) (fun W1 hW1 => by go_simp; done) hS0 (fun a' ha' => ?_)
        simp only [Act.put, List.getElem_toArray, List.getElem_cons_succ, List.getElem_cons_zero, List.setIfInBounds_toArray, List.set_cons_succ, List.set_cons_zero] at ha'
        subst ha'
        refine wpAnyH_next (i := 15) (v := .bool false) rfl (by kernel_rfl) (by kernel_rfl) (by kernel_rfl) (fun _ _ _ h => h) (by kernel_rfl) (fun W1 hW1 => by go_simp; done) hS0 (fun a' ha' => ?_)
        simp only [Act.put, List.getElem_toArray, List.getElem_cons_succ, List.getElem_cons_zero, List.setIfInBounds_toArray, List.set_cons_succ, List.set_cons_zero] at ha'
        subst ha'
        refine wpAnyH_next (i := 16) (v := .slice A l.length c) rfl (by kernel_rfl) (by kernel_rfl) (by kernel_rfl) (fun _ _ _ h => h) (by kernel_rfl) (fun W1 hW1 => by go_simp; done) hS0 (fun a' ha' => ?_)
        simp only [Act.put, List.getElem_toArray, List.getElem_cons_succ, List.getElem_cons_zero, List.setIfInBounds_toArray, List.set_cons_succ, List.set_cons_zero] at ha'
        subst ha'
        refine wpAnyH_next (i := 17) (v := .slice (some ⟨b, off, none⟩) S.length ca) rfl (by kernel_rfl) (by kernel_rfl) (by kernel_rfl) (fun _ _ _ h => h) (by kernel_rfl) (fun W1 hW1 => by go_simp; done) hS0 (fun a' ha' => ?_)
        simp only [Act.put, List.getElem_toArray, List.getElem_cons_succ, List.getElem_cons_zero, List.setIfInBounds_toArray, List.set_cons_succ, List.set_cons_zero] at ha'
        subst ha'
        refine wpAnyH_next (i := 18) (v := .int .i64 (k : Int)) rfl (by kernel_rfl) (by kernel_rfl) (by kernel_rfl) (fun _ _ _ h => h) (by kernel_rfl) (fun W1 hW1 => by go_simp; done) hS0 (fun a' ha' => ?_)
        simp only [Act.put, List.getElem_toArray, List.getElem_cons_succ, List.getElem_cons_zero, List.setIfInBounds_toArray, List.set_cons_succ, List.set_cons_zero] at ha'
        subst ha'
        refine wpAnyH_next (i := 19) (v := .pointer (some ⟨b, off + k * 32, none⟩)) rfl (by kernel_rfl) (by kernel_rfl) (by kernel_rfl) (fun _ _ _ h => h) (by kernel_rfl) (fun W1 hW1 => by go_simp; done) hS0 (fun a' ha' => ?_)
        simp only [Act.put, List.getElem_toArray, List.getElem_cons_succ, List.getElem_cons_zero, List.setIfInBounds_toArray, List.set_cons_succ, List.set_cons_zero] at ha'
        subst ha'
        refine wpAnyH_next (i := 20) (v := IdV x) rfl (by kernel_rfl) (by kernel_rfl) (by kernel_rfl) (fun _ _ _ h => h) (by kernel_rfl) (fun W1 hW1 => by exact exec_load_id rfl rfl hx32 (hat1.below hW1)) hS0 (fun a' ha' => ?_)
        simp only [Act.put, List.getElem_toArray, List.getElem_cons_succ, List.getElem_cons_zero, List.setIfInBounds_toArray, List.set_cons_succ, List.set_cons_zero] at ha'
        subst ha'
        refine wpAnyH_want (i := 21) (by kernel_rfl) rfl (by kernel_rfl) (fun K hK => ?_)
        unfold Oper.wp
        go_simp
        refine (cH _ hS0).mono ?_
        rintro e z1 ⟨rfl, hz1⟩
        have hSz1 : Below wr.heap.size wr z1 := hS0.trans (hz1.mono hS0.size)
        clear hz1
        refine hK _ _ hSz1 ?_
        clear hK K
        refine wpAnyH_next (i := 22) (v := .bool false) rfl (by kernel_rfl) (by kernel_rfl) (by kernel_rfl) (fun _ _ _ h => h) (by kernel_rfl) (fun W1 hW1 => by go_simp; done) hSz1 (fun a' ha' => ?_)
        simp only [Act.put, List.getElem_toArray, List.getElem_cons_succ, List.getElem_cons_zero, List.setIfInBounds_toArray, List.set_cons_succ, List.set_cons_zero] at ha'
        subst ha'
        refine wpAnyH_next (i := 23) (v := .bool false) rfl (by kernel_rfl) (by kernel_rfl) (by kernel_rfl) (fun _ _ _ h => h) (by kernel_rfl) (fun W1 hW1 => by go_simp; done) hSz1 (fun a' ha' => ?_)
        simp only [Act.put, List.getElem_toArray, List.getElem_cons_succ, List.getElem_cons_zero, List.setIfInBounds_toArray, List.set_cons_succ, List.set_cons_zero] at ha'
        subst ha'
        refine wpAnyH_fin (by kernel_rfl) ?_ _
        have hB4 := hB.trans (hSz1.mono hB.size)
        clear hSz1
        go_wp2_with fail
        go_roundw
        case rel => exact ⟨k + 1, by omega, by go_num, hB4⟩
        case measure => simp [intOf]; omega
      case neg =>
        obtain ⟨j, hkj⟩ : ∃ j, k = j + 1 := ⟨k - 1, by omega⟩
        have hk1 : (0 : Int) < (k : Int) := by omega
        have hk2 : 0 < k := by omega
        have hkj2 : (k : Int) - 1 = (j : Int) := by omega
        have bj : (j : Int) < (S.length : Int) := by omega
        have wj : IntKind.i64.wrap (j : Int) = (j : Int) := IntWalk.i64_in _ (by omega)
        have hjl : j < S.length := by omega
        obtain ⟨y, hyj⟩ : ∃ y, S[j]? = some y := ⟨_, List.getElem?_eq_getElem hjl⟩
        obtain ⟨hy32, b', off', he, hatj⟩ := ha3.at hyj
        obtain ⟨rfl, rfl⟩ : b = b' ∧ off = off' := by
          simp only [Option.some.injEq, Addr.mk.injEq, and_true] at he
          exact he
        have hatj1 := hatj.below hB
        obtain ⟨C, hC⟩ : ∃ C, C = cmpB y x := ⟨_, rfl⟩
        have hC0 : ¬ (0 : Int) ≤ C := by
          have h1 := List.pairwise_iff_getElem.1 HS.out.1 j k hjl hlt (by omega)
          have e1 : S[j] = y := by rw [List.getElem?_eq_getElem hjl] at hyj; exact Option.some.inj hyj
          have e2 : S[k] = x := by rw [List.getElem?_eq_getElem hlt] at hxk; exact Option.some.inj hxk
          rw [e1, e2] at h1
          rw [hC]
          omega
        have cC : ∀ W, Calls Try.prog 10 #[IdV y, IdV x] W fun e W' => e = .returned (.int .i64 C) ∧ Below W.heap.size W W' := fun W => by rw [hC]; exact hCompare_any W y x hy32 hx32
        have HKJ := Lib.hid hkj
        clear hxk hat hl4 hxl hkj he hatj hC hyj hjl
        go_wp2_with (with_reducible apply held_at 8)
        unfold Held
        refine wp_held (fun W1 => Below wr.heap.size wr W1) (by kernel_rfl) ?_
        have hS0 : Below wr.heap.size wr wr.drew := (Below.refl _ wr).drew
        refine wpAnyH_next (i := 0) (v := .int .i64 (k : Int)) rfl (by kernel_rfl) (by kernel_rfl) (by kernel_rfl) (fun _ _ _ h => h) (by kernel_rfl) (fun W1 hW1 => by go_simp; done) hS0 (fun a' ha' => ?_)
        simp only [Act.put, List.getElem_toArray, List.getElem_cons_zero, List.setIfInBounds_toArray, List.set_cons_succ, List.set_cons_zero] at ha'
        subst ha'
        refine wpAnyH_next (i := 1) (v := .bool true) rfl (by kernel_rfl) (by kernel_rfl) (by kernel_rfl) (fun _ _ _ h => h) (by kernel_rfl) (fun W1 hW1 => by go_simp; done) hS0 (fun a' ha' => ?_)
        simp only [Act.put, List.getElem_toArray, List.getElem_cons_succ, List.getElem_cons_zero, List.setIfInBounds_toArray, List.set_cons_succ, List.set_cons_zero] at ha'
        subst ha'
        refine wpAnyH_next (i := 2) (v := .bool true) rfl (by kernel_rfl) (by kernel_rfl) (by kernel_rfl) (fun _ _ _ h => h) (by kernel_rfl) (fun W1 hW1 => by go_simp; done) hS0 (fun a' ha' => ?_)
        simp only [Act.put, List.getElem_toArray, List.getElem_cons_succ, List.getElem_cons_zero, List.setIfInBounds_toArray, List.set_cons_succ, List.set_cons_zero] at ha'
        subst ha'
        refine wpAnyH_next (i := 3) (v := .slice (some ⟨b, off, none⟩) S.length ca) rfl (by kernel_rfl) (by kernel_rfl) (by kernel_rfl) (fun _ _ _ h => h) (by kernel_rfl) (fun W1 hW1 => by go_simp; done) hS0 (fun a' ha' => ?_)
        simp only [Act.put, List.getElem_toArray, List.getElem_cons_succ, List.getElem_cons_zero, List.setIfInBounds_toArray, List.set_cons_succ, List.set_cons_zero] at ha'
        subst ha'
        refine wpAnyH_next (i := 4) (v := .int .i64 (k : Int)) rfl (by kernel_rfl) (by kernel_rfl) (by kernel_rfl) (fun _ _ _ h => h) (by kernel_rfl) (fun W1 hW1 => by go_simp; done) hS0 (fun a' ha' => ?_)
        simp only [Act.put, List.getElem_toArray, List.getElem_cons_succ, List.getElem_cons_zero, List.setIfInBounds_toArray, List.set_cons_succ, List.set_cons_zero] at ha'
        subst ha'
        refine wpAnyH_next (i := 5) (v := .int .i64 (j : Int)) rfl (by kernel_rfl) (by kernel_rfl) (by kernel_rfl) (fun _ _ _ h => h) (by kernel_rfl) (fun W1 hW1 => by go_simp; done) hS0 (fun a' ha' => ?_)
        simp only [Act.put, List.getElem_toArray, List.getElem_cons_succ, List.getElem_cons_zero, List.setIfInBounds_toArray, List.set_cons_succ, List.set_cons_zero] at ha'
        subst ha'
        refine wpAnyH_next (i := 6) (v := .pointer (some ⟨b, off + j * 32, none⟩)) rfl (by kernel_rfl) (by kernel_rfl) (by kernel_rfl) (fun _ _ _ h => h) (by kernel_rfl) (fun W1 hW1 => by go_simp; done) hS0 (fun a' ha' => ?_)
        simp only [Act.put, List.getElem_toArray, List.getElem_cons_succ, List.getElem_cons_zero, List.setIfInBounds_toArray, List.set_cons_succ, List.set_cons_zero] at ha'
        subst ha'
        refine wpAnyH_next (i := 7) (v := IdV y) rfl (by kernel_rfl) (by kernel_rfl) (by kernel_rfl) (fun _ _ _ h => h) (by kernel_rfl) (fun W1 hW1 => by exact exec_load_id rfl rfl hy32 (hatj1.below hW1)) hS0 (fun a' ha' => ?_)
        simp only [Act.put, List.getElem_toArray, List.getElem_cons_succ, List.getElem_cons_zero, List.setIfInBounds_toArray, List.set_cons_succ, List.set_cons_zero] at ha'
        subst ha'
        refine wpAnyH_next (i := 8) (v := .slice (some ⟨b, off, none⟩) S.length ca) rfl (by kernel_rfl) (by kernel_rfl) (by kernel_rfl) (fun _ _ _ h => h) (by kernel_rfl) (fun W1 hW1 => by go_simp; done) hS0 (fun a' ha' => ?_)
        simp only [Act.put, List.getElem_toArray, List.getElem_cons_succ, List.getElem_cons_zero, List.setIfInBounds_toArray, List.set_cons_succ, List.set_cons_zero] at ha'
        subst ha'
        refine wpAnyH_next (i := 9) (v := .int .i64 (k : Int)) rfl (by kernel_rfl) (by kernel_rfl) (by kernel_rfl) (fun _ _ _ h => h) (by kernel_rfl) (fun W1 hW1 => by go_simp; done) hS0 (fun a' ha' => ?_)
        simp only [Act.put, List.getElem_toArray, List.getElem_cons_succ, List.getElem_cons_zero, List.setIfInBounds_toArray, List.set_cons_succ, List.set_cons_zero] at ha'
        subst ha'
        refine wpAnyH_next (i := 10) (v := .pointer (some ⟨b, off + k * 32, none⟩)) rfl (by kernel_rfl) (by kernel_rfl) (by kernel_rfl) (fun _ _ _ h => h) (by kernel_rfl) (fun W1 hW1 => by go_simp; done) hS0 (fun a' ha' => ?_)
        simp only [Act.put, List.getElem_toArray, List.getElem_cons_succ, List.getElem_cons_zero, List.setIfInBounds_toArray, List.set_cons_succ, List.set_cons_zero] at ha'
        subst ha'
        refine wpAnyH_next (i := 11) (v := IdV x) rfl (by kernel_rfl) (by kernel_rfl) (by kernel_rfl) (fun _ _ _ h => h) (by kernel_rfl) (fun W1 hW1 => by exact exec_load_id rfl rfl hx32 (hat1.below hW1)) hS0 (fun a' ha' => ?_)
        simp only [Act.put, List.getElem_toArray, List.getElem_cons_succ, List.getElem_cons_zero, List.setIfInBounds_toArray, List.set_cons_succ, List.set_cons_zero] at ha'
        subst ha'
        refine wpAnyH_want (i := 12) (by kernel_rfl) rfl (by kernel_rfl) (fun K hK => ?_)
        unfold Oper.wp
        go_simp
        refine (cC _).mono ?_
        rintro e z1 ⟨rfl, hz1⟩
        have hSz1 : Below wr.heap.size wr z1 := hS0.trans (hz1.mono hS0.size)
        clear hz1
        refine hK _ _ hSz1 ?_
        clear hK K
        refine wpAnyH_next (i := 13) (v := .bool false) rfl (by kernel_rfl) (by kernel_rfl) (by kernel_rfl) (fun _ _ _ h => h) (by kernel_rfl) (fun W1 hW1 => by go_simp; done) hSz1 (fun a' ha' => ?_)
        simp only [Act.put, List.getElem_toArray, List.getElem_cons_succ, List.getElem_cons_zero, List.setIfInBounds_toArray, List.set_cons_succ, List.set_cons_zero] at ha'
        subst ha'
        refine wpAnyH_next (i := 14) (v := .bool false) rfl (by kernel_rfl) (by kernel_rfl) (by kernel_rfl) (fun _ _ _ h => h) (by kernel_rfl) (fun W1 hW1 => by go_simp; done) hSz1 (fun a' ha' => ?_)
        simp only [Act.put, List.getElem_toArray, List.getElem_cons_succ, List.getElem_cons_zero, List.setIfInBounds_toArray, List.set_cons_succ, List.set_cons_zero] at ha'
        subst ha'
        refine wpAnyH_next (i := 15) (v := .bool false) rfl (by kernel_rfl) (by kernel_rfl) (by kernel_rfl) (fun _ _ _ h => h) (by kernel_rfl) (fun W1 hW1 => by go_simp; done) hSz1 (fun a' ha' => ?_)
        simp only [Act.put, List.getElem_toArray, List.getElem_cons_succ, List.getElem_cons_zero, List.setIfInBounds_toArray, List.set_cons_succ, List.set_cons_zero] at ha'
        subst ha'
        refine wpAnyH_next (i := 16) (v := .slice A l.length c) rfl (by kernel_rfl) (by kernel_rfl) (by kernel_rfl) (fun _ _ _ h => h) (by kernel_rfl) (fun W1 hW1 => by go_simp; done) hSz1 (fun a' ha' => ?_)
        simp only [Act.put, List.getElem_toArray, List.getElem_cons_succ, List.getElem_cons_zero, List.setIfInBounds_toArray, List.set_cons_succ, List.set_cons_zero] at ha'
        subst ha'
        refine wpAnyH_next (i := 17) (v := .slice (some ⟨b, off, none⟩) S.length ca) rfl (by kernel_rfl) (by kernel_rfl) (by kernel_rfl) (fun _ _ _ h => h) (by kernel_rfl) (fun W1 hW1 => by go_simp; done) hSz1 (fun a' ha' => ?_)
        simp only [Act.put, List.getElem_toArray, List.getElem_cons_succ, List.getElem_cons_zero, List.setIfInBounds_toArray, List.set_cons_succ, List.set_cons_zero] at ha'
        subst ha'
        refine wpAnyH_next (i := 18) (v := .int .i64 (k : Int)) rfl (by kernel_rfl) (by kernel_rfl) (by kernel_rfl) (fun _ _ _ h => h) (by kernel_rfl) (fun W1 hW1 => by go_simp; done) hSz1 (fun a' ha' => ?_)
        simp only [Act.put, List.getElem_toArray, List.getElem_cons_succ, List.getElem_cons_zero, List.setIfInBounds_toArray, List.set_cons_succ, List.set_cons_zero] at ha'
        subst ha'
        refine wpAnyH_next (i := 19) (v := .pointer (some ⟨b, off + k * 32, none⟩)) rfl (by kernel_rfl) (by kernel_rfl) (by kernel_rfl) (fun _ _ _ h => h) (by kernel_rfl) (fun W1 hW1 => by go_simp; done) hSz1 (fun a' ha' => ?_)
        simp only [Act.put, List.getElem_toArray, List.getElem_cons_succ, List.getElem_cons_zero, List.setIfInBounds_toArray, List.set_cons_succ, List.set_cons_zero] at ha'
        subst ha'
        refine wpAnyH_next (i := 20) (v := IdV x) rfl (by kernel_rfl) (by kernel_rfl) (by kernel_rfl) (fun _ _ _ h => h) (by kernel_rfl) (fun W1 hW1 => by exact exec_load_id rfl rfl hx32 (hat1.below hW1)) hSz1 (fun a' ha' => ?_)
        simp only [Act.put, List.getElem_toArray, List.getElem_cons_succ, List.getElem_cons_zero, List.setIfInBounds_toArray, List.set_cons_succ, List.set_cons_zero] at ha'
        subst ha'
        refine wpAnyH_want (i := 21) (by kernel_rfl) rfl (by kernel_rfl) (fun K hK => ?_)
        unfold Oper.wp
        go_simp
        refine (cH _ hSz1).mono ?_
        rintro e z2 ⟨rfl, hz2⟩
        have hSz2 : Below wr.heap.size wr z2 := hSz1.trans (hz2.mono hSz1.size)
        clear hz2
        refine hK _ _ hSz2 ?_
        clear hK K
        refine wpAnyH_next (i := 22) (v := .bool false) rfl (by kernel_rfl) (by kernel_rfl) (by kernel_rfl) (fun _ _ _ h => h) (by kernel_rfl) (fun W1 hW1 => by go_simp; done) hSz2 (fun a' ha' => ?_)
        simp only [Act.put, List.getElem_toArray, List.getElem_cons_succ, List.getElem_cons_zero, List.setIfInBounds_toArray, List.set_cons_succ, List.set_cons_zero] at ha'
        subst ha'
        refine wpAnyH_next (i := 23) (v := .bool false) rfl (by kernel_rfl) (by kernel_rfl) (by kernel_rfl) (fun _ _ _ h => h) (by kernel_rfl) (fun W1 hW1 => by go_simp; done) hSz2 (fun a' ha' => ?_)
        simp only [Act.put, List.getElem_toArray, List.getElem_cons_succ, List.getElem_cons_zero, List.setIfInBounds_toArray, List.set_cons_succ, List.set_cons_zero] at ha'
        subst ha'
        refine wpAnyH_fin (by kernel_rfl) ?_ _
        have hB4 := hB.trans (hSz2.mono hB.size)
        clear hSz2
        go_wp2_with fail
        go_roundw
        case rel => exact ⟨k + 1, by omega, by go_num, hB4⟩
        case measure => simp [intOf]; omega
    case neg =>
      have bk : ¬ (k : Int) < (S.length : Int) := by omega
      rename World => w4
      have ha4 := ha3.below hB
      have hb4 := hb.below hB
      have hl4 := hl3.below hB
      have hB4 := hB3.trans (hB.mono hB3.size)
      clear ha3 hb hl3 hB3
      go_wp2_with fail
      go_loopw [65] (fun i wr => ∃ k : Nat, k ≤ l.length ∧ i = .int .i64 k ∧ Below w4.heap.size w4 wr) (fun i _ => l.length - (intOf i).toNat)
      case atStart => exact ⟨0, by omega, rfl, Below.refl _ _⟩
      case round =>
        obtain ⟨k2, hk2, rfl, hBs⟩ := hrel
        have hBw := hB4.trans (hBs.mono hB4.size)
        have ha5 := ha4.below hBs
        by_cases hlt2 : k2 < l.length
        case pos =>
          obtain ⟨x, hxk⟩ : ∃ x, l[k2]? = some x := ⟨_, List.getElem?_eq_getElem hlt2⟩
          have hxS : x ∈ S := (HS.out.2.2 x).2 (List.mem_of_getElem? hxk)
          obtain ⟨hx32, b, off, rfl, hat⟩ := hl4.at hxk
          have hat1 := hat.below hBs
          have n0 := BoxI.new wr zeroID_length
          have bk2 : (k2 : Int) < (l.length : Int) := by omega
          clear hxk hat
          go_wp2_with (first
            | (refine wpList_load_id rfl (.tmp 67) rfl rfl hx32 hat1 ?_)
            | (refine wpList_alloc_id rfl rfl ?_)
            | (refine wpList_store_id rfl (.tmp 10) (.tmp 68) rfl rfl n0 hx32 rfl ?_; intro w5 y5 k5)
            | (refine wpList_load_id rfl (.tmp 10) rfl rfl hx32 y5.at ?_))
          have B1 : Below wr.heap.size wr w5 := ((Below.refl _ wr).alloc (Nat.le_refl _) _).trans (k5.below (fun j _ e => by omega) (by simp))
          refine (hHas_any w5 _ S (ha5.below B1) (by omega) HS.out.1 x hx32).mono ?_
          rintro e w6 ⟨rfl, q6⟩
          rw [decide_eq_true hxS]
          have hB6 := hBs.trans ((B1.trans (q6.mono B1.size)).mono hBs.size)
          clear n0 y5 k5 hat1 B1 q6
          go_wp2_with fail
          go_roundw
          case rel => exact ⟨k2 + 1, by omega, by go_num, hB6⟩
          case measure => simp [intOf]; omega
        case neg =>
          have bk2 : ¬ (k2 : Int) < (l.length : Int) := by omega
          rename World => wm
          have hb5 := hb4.below hBs
          clear ha4 hb4 hl4 hB hBs hB4
          obtain ⟨D, hD⟩ : ∃ D, D = lessI S T := ⟨_, rfl⟩
          obtain ⟨E, hE⟩ : ∃ E, E = lessI S D := ⟨_, rfl⟩
          have HD := Lib.hid (show SS D by rw [hD]; exact lessI_ss HS.out.1 T)
          have HE := Lib.hid (show ∀ x ∈ E, x ∈ T from fun x hx => by
            rw [hE, hD, lessI_mem, lessI_mem] at hx
            exact Classical.byContradiction fun c => hx.2 ⟨hx.1, c⟩)
          have HJ := Lib.hid (show setI (D ++ E) = S by rw [hE, hD]; exact lessI_join S T HS.out.2.1 HS.out.1)
          have hDl : D.length ≤ 40 := by have := lessI_le S T; rw [hD]; omega
          have hEl : E.length ≤ 40 := by have := lessI_le S D; rw [hE]; omega
          have cD : ∀ W v u, Is W v S → Is W u T → Calls Try.prog 14 #[v, u] W fun e W' => ∃ v', e = .returned v' ∧ RowI W' W.heap.size v' D ∧ Below W.heap.size W W' := fun W v u h1 h2 => by rw [hD]; exact hLess_any W v u S T h1 h2 (by omega) (by omega) HT.out.1
          have cE : ∀ W v u, Is W v S → Is W u D → Calls Try.prog 14 #[v, u] W fun e W' => ∃ v', e = .returned v' ∧ RowI W' W.heap.size v' E ∧ Below W.heap.size W W' := fun W v u h1 h2 => by rw [hE]; exact hLess_any W v u S D h1 h2 (by omega) (by omega) HD.out
          clear hD hE
          go_wp2_with fail
          refine (cD wm _ _ ha5 hb5).mono ?_
          rintro e w5 ⟨v5, rfl, h5, q5⟩
          have h5i := h5.is
          have ha6 := ha5.below q5
          have hb6 := hb5.below q5
          have hB6 := hBw.trans (q5.mono hBw.size)
          clear ha5 hb5 h5 q5 hBw
          go_wp2_with fail
          refine (cE w5 _ _ ha6 h5i).mono ?_
          rintro e w6 ⟨v6, rfl, h6, q6⟩
          have h6i := h6.is
          have ha7 := ha6.below q6
          have hb7 := hb6.below q6
          have h5j := h5i.below q6
          have hB7 := hB6.trans (q6.mono hB6.size)
          clear ha6 hb6 h6 q6 hB6 h5i cD cE
          obtain ⟨Ae, ce, rfl, _⟩ := h6i.form
          obtain ⟨Ad, cd, rfl, _⟩ := h5j.form
          go_wp2_with fail
          go_loopw [82] (fun i wr => ∃ k : Nat, k ≤ E.length ∧ i = .int .i64 k ∧ Below w6.heap.size w6 wr) (fun i _ => E.length - (intOf i).toNat)
          case atStart => exact ⟨0, by omega, rfl, Below.refl _ _⟩
          case round =>
            obtain ⟨k3, hk3, rfl, hBt⟩ := hrel
            have hBw := hB7.trans (hBt.mono hB7.size)
            have hb8 := hb7.below hBt
            by_cases hlt3 : k3 < E.length
            case pos =>
              obtain ⟨x, hxk⟩ : ∃ x, E[k3]? = some x := ⟨_, List.getElem?_eq_getElem hlt3⟩
              have hxT : x ∈ T := HE.out x (List.mem_of_getElem? hxk)
              obtain ⟨hx32, b, off, rfl, hat⟩ := h6i.at hxk
              have hat1 := hat.below hBt
              have n0 := BoxI.new wr zeroID_length
              have bk3 : (k3 : Int) < (E.length : Int) := by omega
              clear hxk hat
              go_wp2_with (first
                | (refine wpList_load_id rfl (.tmp 84) rfl rfl hx32 hat1 ?_)
                | (refine wpList_alloc_id rfl rfl ?_)
                | (refine wpList_store_id rfl (.tmp 14) (.tmp 85) rfl rfl n0 hx32 rfl ?_; intro w7 y7 k7)
                | (refine wpList_load_id rfl (.tmp 14) rfl rfl hx32 y7.at ?_))
              have B1 : Below wr.heap.size wr w7 := ((Below.refl _ wr).alloc (Nat.le_refl _) _).trans (k7.below (fun j _ e => by omega) (by simp))
              refine (hHas_any w7 _ T (hb8.below B1) (by omega) HT.out.1 x hx32).mono ?_
              rintro e w8 ⟨rfl, q8⟩
              rw [decide_eq_true hxT]
              have hB8 := hBt.trans ((B1.trans (q8.mono B1.size)).mono hBt.size)
              clear n0 y7 k7 hat1 B1 q8
              go_wp2_with fail
              go_roundw
              case rel => exact ⟨k3 + 1, by omega, by go_num, hB8⟩
              case measure => simp [intOf]; omega
            case neg =>
              have bk3 : ¬ (k3 : Int) < (E.length : Int) := by omega
              have ha8 := ha7.below hBt
              have h5k := h5j.below hBt
              have h6k := h6i.below hBt
              clear ha7 hb7 h5j h6i hB7 hBt hb8
              go_wp2_with fail
              refine (hLess_any wr _ _ S S ha8 ha8 (by omega) (by omega) HS.out.1).mono ?_
              rintro e w7 ⟨v7, rfl, h7, q7⟩
              rw [lessI_self] at h7
              obtain ⟨A7, c7, rfl, _⟩ := h7.is.form
              have ha9 := ha8.below q7
              have h59 := h5k.below q7
              have h69 := h6k.below q7
              have hB9 := hBw.trans (q7.mono hBw.size)
              have r0 := RowI.made w7
              have hC1 : Below w7.heap.size w7 (w7.alloc (.cells #[] 23)) := (Below.refl _ w7).alloc (Nat.le_refl _) _
              have h5a := h59.below hC1
              clear ha8 h5k h6k hBw h7 q7
              have hDE := Lib.hid (show (D ++ E).length ≤ 1000 by rw [List.length_append]; omega)
              go_wp2_with (first
                | (at_builtin; refine list_want (by first | rfl | kernel_rfl) (fun K hK => ?_); refine wp_append_is (.tmp 100) (.tmp 101) rfl _ _ [] rfl r0 _ D rfl h5a (by simp; omega) (by simp) ?_; intro v8 w8 hown8 hgr8 hv8; have hC8 := hC1.trans ((Kept.of_grown hgr8).below (fun j _ e => (r0.own.lt j e).1) hC1.size); have h6b := h69.below hC8; have hown8 := (show RowI w8 w7.heap.size v8 D from by simpa using hown8); clear hgr8 hv8 h5a; refine hK _ _ ?_; clear hK K)
                | (at_builtin; refine list_want (by first | rfl | kernel_rfl) (fun K hK => ?_); refine wp_append_is (.tmp 102) (.tmp 103) rfl _ _ D rfl hown8 _ E rfl h6b (by omega) (by have := hC8.size; omega) ?_; intro v9 w9 hown9 hgr9 hv9; have hC9 := hC8.trans ((Kept.of_grown hgr9).below (fun j _ e => (hown8.own.lt j e).1) hC8.size); have h9 := hown9.is; have hb9 := ha9.below hC9; have hB10 := hB9.trans (hC9.mono hB9.size); clear hgr9 hv9 hown9 hown8 h6b hC8 hC9; refine hK _ _ ?_; clear hK K))
              refine (hSet_any w9 v9 (D ++ E) h9 hDE.out).mono ?_
              rintro e wa ⟨vx, rfl, hx, qa⟩
              rw [HJ.out] at hx
              have hax := hb9.below qa
              have hBa := hB10.trans (qa.mono hB10.size)
              clear h9 hb9 qa hB10
              go_wp2_with fail
              refine (rSame_any wa vx _ S S hx hax (by omega) (by omega)).mono ?_
              rintro e wb ⟨rfl, qb⟩
              rw [decide_eq_true rfl]
              have hBb := hBa.trans (qb.mono hBa.size)
              clear hx hax hBa qb
              go_wp2
              go_ret
              exact ⟨rfl, hBb⟩

set_option maxRecDepth 100000 in
set_option maxHeartbeats 400000 in
theorem groups_great (w : World) (A B : Option Addr) (n k c d : Nat) (hn : n ≤ 9223372036854775807) (hk : k ≤ 9223372036854775807) (h : 40 < n ∨ 40 < k) :
    Calls Try.prog 4 #[.slice A n c, .slice B k d] w fun e W' => e = .returned (.bool true) ∧ Below w.heap.size w W' := by
  go_enter Try.func4, Try.ntmps4
  by_cases h1 : 40 < n
  · have h1' : (40 : Int) < (n : Int) := by omega
    clear h
    go_wp2_with fail
    refine (alive3_any w).mono ?_
    rintro e w1 ⟨rfl, q1⟩
    go_simp
    go_wp2
    go_ret
    exact ⟨rfl, q1⟩
  · have h1' : ¬ (40 : Int) < (n : Int) := by omega
    have h2' : (40 : Int) < (k : Int) := by omega
    clear h
    go_wp2_with fail
    refine (alive3_any w).mono ?_
    rintro e w1 ⟨rfl, q1⟩
    go_simp
    go_wp2
    go_ret
    exact ⟨rfl, q1⟩
/-- For all arguments. -/
theorem groups_arg (w : World) (v : Value) (l : List (List UInt8)) (hl : Is w v l) (hll : l.length ≤ 9223372036854775807) (u : Value) (m : List (List UInt8)) (hm : Is w u m) (hml : m.length ≤ 9223372036854775807) :
    Calls Try.prog 4 #[v, u] w fun e W' => e = .returned (.bool true) ∧ Below w.heap.size w W' := by
  obtain ⟨A, c, rfl, _⟩ := hl.form
  obtain ⟨B, d, rfl, _⟩ := hm.form
  by_cases h : 40 < l.length ∨ 40 < m.length
  · exact groups_great w A B _ _ c d hll hml h
  · exact groups_some w A B c d l m hl hm (by omega) (by omega)
end Go.Proofs.Ytcclifnhbncfcaa
