/- The walk of LebCut. -/
import Derived.Test.YtgapabbhjocflaaLebOps
namespace Go.Proofs.Ytgapabbhjocflaa
open Go.RowKit

/-- A beginning of a number's bytes is too short. -/
theorem scan_short : ∀ (n k p m : Nat) (xs : List UInt8), k ≤ n → (p = 0 ∨ 0 < k) → k * 128 ^ p < 18446744073709551616 → xs <+: lebB k → xs.length < (lebB k).length → (scan p m xs).1 = 10 := by
  intro n
  induction n with
  | zero =>
    intro k p m xs hk hp _ hx hl
    obtain rfl : k = 0 := by omega
    have : xs = [] := by rw [lebB_small (by omega)] at hl; simp at hl; exact hl
    subst this
    rfl
  | succ n ih =>
    intro k p m xs hk hp hb hx hl
    have h9 : p = 9 → k ≤ 1 := by rintro rfl; simp at hb; omega
    match xs with
    | [] => rfl
    | x :: xs =>
    by_cases h : k < 128
    · rw [lebB_small h] at hl
      simp at hl
    · have h1 : (UInt8.ofNat (k % 128 + 128)).toNat = k % 128 + 128 := toNat_small (by omega)
      have h2 : k / 128 * 128 ^ (p + 1) + k % 128 * 128 ^ p = k * 128 ^ p := by
        rw [Nat.pow_succ, Nat.mul_comm (128 ^ p) 128, ← Nat.mul_assoc, ← Nat.add_mul]
        congr 1
        omega
      rw [lebB_great (by omega)] at hx hl
      obtain ⟨rfl, hx'⟩ := List.cons_prefix_cons.1 hx
      rw [scan_more _ (by rw [h1]; omega) (by rw [h1]; omega)]
      exact ih (k / 128) (p + 1) _ xs (by omega) (by omega) (by omega) hx' (by simp at hl; omega)

theorem num_short {n : Nat} (hn : n < 18446744073709551616) (most : Nat) {xs : List UInt8} (hx : xs <+: lebB n) (hl : xs.length < (lebB n).length) : (numRes most xs).1 = 10 ∧ (numRes most xs).2.1 = 0 := by
  have h := scan_short n n 0 0 xs (Nat.le_refl _) (.inl rfl) (by simpa using hn) hx hl
  unfold numRes
  rw [if_pos (by rw [h]; decide)]
  exact ⟨h, rfl⟩
theorem num_short_back {n : Nat} (hn : n < 18446744073709551616) (most : Nat) {xs : List UInt8} (hx : xs <+: lebB n) (hl : xs.length < (lebB n).length) : back xs (numRes most xs) = (10, 0, xs) := by
  obtain ⟨h1, h2⟩ := num_short hn most hx hl
  unfold back
  rw [h1, h2, if_neg (by decide)]
theorem raw_short {k : Nat} {xs : List UInt8} (hl : xs.length < k) : rawRes (k : Int) xs = (10, [], xs) := by
  unfold rawRes
  rw [if_neg (by omega), if_pos (by omega)]
theorem raw_short_back {k : Nat} {xs : List UInt8} (hl : xs.length < k) : back xs (rawRes (k : Int) xs) = (10, [], xs) := by
  rw [raw_short hl]
  simp [back]
theorem bytes_short_back {bs xs : List UInt8} (hb : bs.length < 18446744073709551616) (hx : xs <+: lebB bs.length ++ bs) (hl : xs.length < (lebB bs.length ++ bs).length) : back xs (bytesRes (bs.length : Int) xs) = (10, [], xs) := by
  have hT : (bs.length : Int).toNat = bs.length := by omega
  by_cases h : xs.length < (lebB bs.length).length
  · obtain ⟨h1, _⟩ := num_short hb bs.length (List.prefix_of_prefix_length_le hx (List.prefix_append _ _) (by omega)) h
    unfold back bytesRes
    rw [hT, if_pos (by rw [h1]; decide), h1]
    simp
  · obtain ⟨t, rfl⟩ := List.prefix_of_prefix_length_le (List.prefix_append (lebB bs.length) bs) hx (by omega)
    have h2 : numRes bs.length (lebB bs.length ++ t) = (0, bs.length, t) := by
      unfold numRes
      rw [scan_read hb t]
      simp
    unfold back bytesRes
    rw [hT, h2]
    simp only [ne_eq, not_true, if_false]
    rw [raw_short (by simp at hl; omega)]
    simp

/-- A beginning that lacks something: of the first part, or of what follows. -/
theorem cut_cases {a rest xs : List UInt8} (hx : xs <+: a ++ rest) (hl : xs.length < (a ++ rest).length) : (∃ t, xs = a ++ t ∧ t <+: rest ∧ t.length < rest.length) ∨ (xs <+: a ∧ xs.length < a.length) := by
  by_cases h : xs.length < a.length
  · exact .inr ⟨List.prefix_of_prefix_length_le hx (List.prefix_append _ _) (by omega), h⟩
  · obtain ⟨t, rfl⟩ := List.prefix_of_prefix_length_le (List.prefix_append a rest) hx (by omega)
    exact .inl ⟨t, rfl, (List.prefix_append_right_inj a).1 hx, by simp at hl; omega⟩

theorem SinkWrote.box {W w' : World} {n g : Nat} {v : Value} {xs ys : List UInt8} {cs : Array Value} {t : TypeId} (hat : SinkAt W n g v xs) (h : SinkWrote (W.alloc (.cells cs t)) n g v ys w') (i : Nat) (hi : i < cs.size) : w'.cell? ⟨W.heap.size, i, none⟩ = some cs[i] := by
  obtain ⟨v', _, hk, _⟩ := h
  refine (hk.cell (p := ⟨W.heap.size, i, none⟩) (by simp) ?_).trans (by simp [hi])
  rintro (h | h)
  · have := hat.box.lt
    simp at h
    omega
  · have := (hat.row.lt _ h).2
    simp at this
theorem SinkAt.below {W W' : World} {n g : Nat} {v : Value} {xs : List UInt8} (h : SinkAt W n g v xs) (hb : Below W.heap.size W W') : SinkAt W' n g v xs :=
  h.kept (T := fun _ => False) (Kept.of_below hb (Nat.le_refl _) _) (fun h => h) (fun _ _ h => h)

set_option maxRecDepth 100000 in
set_option maxHeartbeats 2000000 in
theorem cut_some (b off cap : Nat) (l : List OpV) (ct : Nat) (hct : ct < 65536) (w : World) (hl : OpsAt w b off l) (hn : 0 < l.length) (h100 : l.length ≤ 100) (ht : total l ≤ 20000) :
    Calls Try.prog 9 #[.slice (some ⟨b, off, none⟩) l.length cap, .int .u16 ct] w fun e W' => e = .returned (.bool true) ∧ Below w.heap.size w W' := by
  go_enter Try.func9, Try.ntmps9
  go_wp2_with fail
  refine (alive_any _).mono ?_
  rintro e w1 ⟨rfl, h1⟩
  go_wp2_with fail
  refine (great_any b off cap l w1 (fun i o ho => (hl i o ho).below h1) hn (by omega)).mono ?_
  rintro e w2 ⟨rfl, rfl⟩
  have hg : (decide (100 < l.length) || decide (20000 < total l)) = false := by simp; omega
  rw [hg]
  clear hg
  have b0 := Boxed.new w1 26 (.slice none 0 0)
  have hat0 : SinkAt (w1.alloc (.cells #[.slice none 0 0] 26)) w.heap.size w1.heap.size (.slice none 0 0) (wrote (l.take 0)) := ⟨b0, World.ownsRow_nil _ _ _ _⟩
  have hB2 : Below w.heap.size w (w1.alloc (.cells #[.slice none 0 0] 26)) := h1.alloc h1.size _
  have hg1 : w.heap.size ≤ w1.heap.size := h1.size
  go_wp2_with fail
  go_loopw [7, 25] (fun wt i wr => ∃ (k : Nat) (v : Value), k ≤ l.length ∧ i = .int .i64 k ∧ wt = .int .i64 ((wrote (l.take k)).length : Int) ∧ SinkAt wr w.heap.size w1.heap.size v (wrote (l.take k)) ∧ Below w.heap.size w wr) (fun _ i _ => l.length - (intOf i).toNat)
  case atStart => exact ⟨0, _, Nat.zero_le _, rfl, rfl, hat0, hB2⟩
  case round =>
    clear hat0 hB2 b0
    obtain ⟨k, v, hk, rfl, rfl, hat, hB⟩ := hrel
    by_cases hlt : k < l.length
    · obtain ⟨o, ho⟩ : ∃ o, l[k]? = some o := ⟨l[k], List.getElem?_eq_getElem hlt⟩
      have hop := (hl k o ho).below hB
      have c0 := hop.c0
      have c1 := hop.c1
      have c2 := hop.c2
      have c3 := hop.c3
      obtain ⟨A, c, hv, hc⟩ := hop.bytes.form
      rw [hv] at c3
      have hapart : ∀ W' : World, Below w.heap.size w W' → ∀ v', W'.ownsRow w.heap.size 5 1 v' (wrote (l.take k)).length ((wrote (l.take k)).map B8) → o.bs ≠ [] → ∀ j, (Value.slice A o.bs.length c).ownBlock = some j → j ≠ w1.heap.size ∧ v'.ownBlock ≠ some j := fun W' _ v' hr hne j hj => by
        have h3 := (hl k o ho).bytes.lt hne j (hv ▸ hj)
        exact ⟨by omega, fun e => by have := (hr.lt j e).1; omega⟩
      have hwl := wrote_le hl k hk
      have htm := total_mono l k
      have hsh : o.bs.length ≤ total l := by have h1 := total_take_succ l k o ho; have h2 := total_mono l (k + 1); omega
      have hws := congrArg List.length (wrote_take_succ l k o ho)
      rw [List.length_append] at hws
      have HWS := Lib.hid hws
      have HV := Lib.hid hv
      have HAP := Lib.hid hapart
      have HO := Lib.hid ho
      clear hv hapart ho hws
      have hbytes := hop.bytes
      rw [HV.out] at hbytes
      have hbase : w.heap.size ≤ (wr.alloc (.cells #[.int .i64 o.kind, .int .i64 o.m, .int .u64 o.n, .slice A o.bs.length c] 30)).heap.size := by have := hB.size; simp; omega
      have HBASE := Lib.hid hbase
      clear hbase
      rcases (by omega : o.kind = 0 ∨ o.kind = 1 ∨ o.kind = 2 ∨ (o.kind ≠ 0 ∧ o.kind ≠ 1 ∧ o.kind ≠ 2)) with hk0 | hk0 | hk0 | ⟨hk0, hk1, hk2⟩
      · have hk0' : (o.kind == 0) = true := by simp [hk0]
        have hob : opBytes o = lebB o.n := by simp [opBytes, hk0]
        have HOB := Lib.hid hob
        have hlb := lebB_u64 hop.small
        clear hob hk0
        go_wp2_with fail
        refine (SinkNumber_any _ o.n hop.small _ v _ w.heap.size HBASE.out (hat.alloc _) (by omega)).mono ?_
        rintro e w3 ⟨rfl, h3⟩
        have q2 : w3.cell? ⟨wr.heap.size, 2, none⟩ = some (.int .u64 o.n) := h3.box hat 2 (by simp)
        obtain ⟨v3, hat3, hB3⟩ := h3.step (hB.alloc hB.size _) HBASE.out hg1 (hat.alloc _)
        clear h3 c0 c1 c2 c3
        go_wp2_with fail
        refine (Size_any o.n hop.small _).mono ?_
        rintro e w4 ⟨rfl, h4⟩
        have hB4 := hB3.trans (h4.mono hB3.size)
        have hat4 := hat3.below h4
        clear hat3 hB3 h4
        go_wp2_with fail
        go_roundw
        case rel => exact ⟨k + 1, v3, by omega, by go_num, by rw [HWS.out, HOB.out]; go_num, by rw [wrote_take_succ l k o HO.out, HOB.out]; exact hat4, hB4⟩
        case measure => simp [intOf]; omega
      · have hk0' : (o.kind == 0) = false := by simp [hk0]
        have hk1' : (o.kind == 1) = true := by simp [hk0]
        have hob : opBytes o = lebB o.bs.length ++ o.bs := by simp [opBytes, hk0]
        have HOB := Lib.hid hob
        have hlb := lebB_u64 (n := o.bs.length) (by omega)
        clear hob hk0
        go_wp2_with fail
        refine (SinkBytes_any _ _ v _ w.heap.size HBASE.out (hat.alloc _) _ o.bs (((Kept.refl (fun _ => False) _).alloc _).bs hbytes (fun _ _ h => h)) (HAP.out wr hB v hat.row) (by omega)).mono ?_
        rintro e w3 ⟨rfl, h3⟩
        have q3 : w3.cell? ⟨wr.heap.size, 3, none⟩ = some (.slice A o.bs.length c) := h3.box hat 3 (by simp)
        obtain ⟨v3, hat3, hB3⟩ := h3.step (hB.alloc hB.size _) HBASE.out hg1 (hat.alloc _)
        clear h3 c0 c1 c2 c3
        go_wp2_with fail
        have hS : w3.drew.cell? ⟨wr.heap.size, 3, none⟩ = some (.slice A o.bs.length c) ∧ (SinkAt w3.drew w.heap.size w1.heap.size v3 (wrote (l.take k) ++ (lebB o.bs.length ++ o.bs)) ∧ Below w.heap.size w w3.drew) := ⟨q3, hat3.below (Below.refl _ _).drew, hB3.drew⟩
        clear q3 hat3 hB3
        refine wp_held (fun W1 => W1.cell? ⟨wr.heap.size, 3, none⟩ = some (.slice A o.bs.length c) ∧ (SinkAt W1 w.heap.size w1.heap.size v3 (wrote (l.take k) ++ (lebB o.bs.length ++ o.bs)) ∧ Below w.heap.size w W1)) (by kernel_rfl) ?_
        refine wpAnyH_next (i := 0) (v := .int .i64 ((wrote (l.take k)).length : Int)) rfl (by kernel_rfl) (by kernel_rfl) (by kernel_rfl) (fun _ _ _ h => h) (by kernel_rfl) (fun W1 ⟨hW1, hW2⟩ => by go_simp) hS (fun a' ha' => ?_)
        simp only [Act.put, List.getElem_toArray, List.getElem_cons_zero, List.setIfInBounds_toArray, List.set_cons_succ, List.set_cons_zero] at ha'
        subst ha'
        refine wpAnyH_next (i := 1) (v := .pointer (some ⟨wr.heap.size, 3, none⟩)) rfl (by kernel_rfl) (by kernel_rfl) (by kernel_rfl) (fun _ _ _ h => h) (by kernel_rfl) (fun W1 ⟨hW1, hW2⟩ => by go_simp) hS (fun a' ha' => ?_)
        simp only [Act.put, List.getElem_toArray, List.getElem_cons_succ, List.getElem_cons_zero, List.setIfInBounds_toArray, List.set_cons_succ, List.set_cons_zero] at ha'
        subst ha'
        refine wpAnyH_next (i := 2) (v := .slice A o.bs.length c) rfl (by kernel_rfl) (by kernel_rfl) (by kernel_rfl) (fun _ _ _ h => h) (by kernel_rfl) (fun W1 ⟨hW1, hW2⟩ => by go_simp) hS (fun a' ha' => ?_)
        simp only [Act.put, List.getElem_toArray, List.getElem_cons_succ, List.getElem_cons_zero, List.setIfInBounds_toArray, List.set_cons_succ, List.set_cons_zero] at ha'
        subst ha'
        refine wpAnyH_next (i := 3) (v := .int .i64 (o.bs.length : Int)) rfl (by kernel_rfl) (by kernel_rfl) (by kernel_rfl) (fun _ _ _ h => h) (by kernel_rfl) (fun W1 ⟨hW1, hW2⟩ => by go_simp) hS (fun a' ha' => ?_)
        simp only [Act.put, List.getElem_toArray, List.getElem_cons_succ, List.getElem_cons_zero, List.setIfInBounds_toArray, List.set_cons_succ, List.set_cons_zero] at ha'
        subst ha'
        refine wpAnyH_next (i := 4) (v := .int .u64 (o.bs.length : Int)) rfl (by kernel_rfl) (by kernel_rfl) (by kernel_rfl) (fun _ _ _ h => h) (by kernel_rfl) (fun W1 ⟨hW1, hW2⟩ => by go_simp; exact IntWalk.u64_in _ ⟨by omega, by omega⟩) hS (fun a' ha' => ?_)
        simp only [Act.put, List.getElem_toArray, List.getElem_cons_succ, List.getElem_cons_zero, List.setIfInBounds_toArray, List.set_cons_succ, List.set_cons_zero] at ha'
        subst ha'
        refine wpAnyH_next (i := 7) (v := .pointer (some ⟨wr.heap.size, 3, none⟩)) rfl (by kernel_rfl) (by kernel_rfl) (by kernel_rfl) (fun _ _ _ h => h) (by kernel_rfl) (fun W1 ⟨hW1, hW2⟩ => by go_simp) hS (fun a' ha' => ?_)
        simp only [Act.put, List.getElem_toArray, List.getElem_cons_succ, List.getElem_cons_zero, List.setIfInBounds_toArray, List.set_cons_succ, List.set_cons_zero] at ha'
        subst ha'
        refine wpAnyH_next (i := 8) (v := .slice A o.bs.length c) rfl (by kernel_rfl) (by kernel_rfl) (by kernel_rfl) (fun _ _ _ h => h) (by kernel_rfl) (fun W1 ⟨hW1, hW2⟩ => by go_simp) hS (fun a' ha' => ?_)
        simp only [Act.put, List.getElem_toArray, List.getElem_cons_succ, List.getElem_cons_zero, List.setIfInBounds_toArray, List.set_cons_succ, List.set_cons_zero] at ha'
        subst ha'
        refine wpAnyH_next (i := 9) (v := .int .i64 (o.bs.length : Int)) rfl (by kernel_rfl) (by kernel_rfl) (by kernel_rfl) (fun _ _ _ h => h) (by kernel_rfl) (fun W1 ⟨hW1, hW2⟩ => by go_simp) hS (fun a' ha' => ?_)
        simp only [Act.put, List.getElem_toArray, List.getElem_cons_succ, List.getElem_cons_zero, List.setIfInBounds_toArray, List.set_cons_succ, List.set_cons_zero] at ha'
        subst ha'
        refine wpAnyH_want (i := 5) (by kernel_rfl) rfl (by kernel_rfl) (fun K hK => ?_)
        unfold Oper.wp
        go_simp
        refine (Size_any o.bs.length (by omega) _).mono ?_
        rintro e w4 ⟨rfl, h4⟩
        replace hS : w4.cell? ⟨wr.heap.size, 3, none⟩ = some (.slice A o.bs.length c) ∧ (SinkAt w4 w.heap.size w1.heap.size v3 (wrote (l.take k) ++ (lebB o.bs.length ++ o.bs)) ∧ Below w.heap.size w w4) :=
          ⟨(h4.cell (p := ⟨wr.heap.size, 3, none⟩) (World.block_lt_of_cell? _ _ hS.1)).trans hS.1, hS.2.1.below h4, hS.2.2.trans (h4.mono hS.2.2.size)⟩
        refine hK _ _ hS ?_
        clear hK K h4
        refine wpAnyH_next (i := 6) (v := .int .i64 (((wrote (l.take k)).length : Int) + ((lebB o.bs.length).length : Int))) rfl (by kernel_rfl) (by kernel_rfl) (by kernel_rfl) (fun _ _ _ h => h) (by kernel_rfl) (fun W1 ⟨hW1, hW2⟩ => by go_simp; exact IntWalk.i64_in _ ⟨by omega, by omega⟩) hS (fun a' ha' => ?_)
        simp only [Act.put, List.getElem_toArray, List.getElem_cons_succ, List.getElem_cons_zero, List.setIfInBounds_toArray, List.set_cons_succ, List.set_cons_zero] at ha'
        subst ha'
        refine wpAnyH_next (i := 10) (v := .int .i64 (((wrote (l.take k)).length : Int) + ((lebB o.bs.length).length : Int) + (o.bs.length : Int))) rfl (by kernel_rfl) (by kernel_rfl) (by kernel_rfl) (fun _ _ _ h => h) (by kernel_rfl) (fun W1 ⟨hW1, hW2⟩ => by go_simp; exact IntWalk.i64_in _ ⟨by omega, by omega⟩) hS (fun a' ha' => ?_)
        simp only [Act.put, List.getElem_toArray, List.getElem_cons_succ, List.getElem_cons_zero, List.setIfInBounds_toArray, List.set_cons_succ, List.set_cons_zero] at ha'
        subst ha'
        refine wpAnyH_next (i := 11) (v := .int .i64 (((wrote (l.take k)).length : Int) + ((lebB o.bs.length).length : Int) + (o.bs.length : Int))) rfl (by kernel_rfl) (by kernel_rfl) (by kernel_rfl) (fun _ _ _ h => h) (by kernel_rfl) (fun W1 ⟨hW1, hW2⟩ => by go_simp) hS (fun a' ha' => ?_)
        simp only [Act.put, List.getElem_toArray, List.getElem_cons_succ, List.getElem_cons_zero, List.setIfInBounds_toArray, List.set_cons_succ, List.set_cons_zero] at ha'
        subst ha'
        refine wpAnyH_fin (by kernel_rfl) ?_ _
        obtain ⟨_, hat4, hB4⟩ := hS
        go_wp2_with fail
        go_roundw
        case rel => exact ⟨k + 1, v3, by omega, by go_num, by rw [HWS.out, HOB.out, List.length_append]; go_num, by rw [wrote_take_succ l k o HO.out, HOB.out]; exact hat4, hB4⟩
        case measure => simp [intOf]; omega
      · have hk0' : (o.kind == 0) = false := by simp [hk0]
        have hk1' : (o.kind == 1) = false := by simp [hk0]
        have hk2' : (o.kind == 2) = true := by simp [hk0]
        have hob : opBytes o = o.bs := by simp [opBytes, hk0]
        have HOB := Lib.hid hob
        clear hob hk0
        go_wp2_with fail
        refine (SinkRaw_any _ _ v _ w.heap.size HBASE.out (hat.alloc _) _ o.bs (((Kept.refl (fun _ => False) _).alloc _).bs hbytes (fun _ _ h => h)) (by omega)).mono ?_
        rintro e w3 ⟨rfl, h3⟩
        have q3 : w3.cell? ⟨wr.heap.size, 3, none⟩ = some (.slice A o.bs.length c) := h3.box hat 3 (by simp)
        obtain ⟨v3, hat3, hB3⟩ := h3.step (hB.alloc hB.size _) HBASE.out hg1 (hat.alloc _)
        clear h3 c0 c1 c2 c3
        go_wp2_with fail
        go_roundw
        case rel => exact ⟨k + 1, v3, by omega, by go_num, by rw [HWS.out, HOB.out]; go_num, by rw [wrote_take_succ l k o HO.out, HOB.out]; exact hat3, hB3⟩
        case measure => simp [intOf]; omega
      · have hk0' : (o.kind == 0) = false := by simp [hk0]
        have hk1' : (o.kind == 1) = false := by simp [hk1]
        have hk2' : (o.kind == 2) = false := by simp [hk2]
        have hob : opBytes o = [] := by simp [opBytes, hk0, hk1, hk2]
        have HOB := Lib.hid hob
        clear hob hk0 hk1 hk2
        go_wp2_with fail
        go_roundw
        case rel => exact ⟨k + 1, v, by omega, by go_num, by rw [HWS.out, HOB.out]; simp, by rw [wrote_take_succ l k o HO.out, HOB.out, List.append_nil]; exact hat.alloc _, hB.alloc hB.size _⟩
        case measure => simp [intOf]; omega
    · obtain rfl : k = l.length := by omega
      rw [List.take_length] at hat ⊢
      have hwl : (wrote l).length ≤ 21000 := by have h1 := wrote_le hl l.length (Nat.le_refl _); rw [List.take_length] at h1; omega
      clear h1
      go_wp2_with fail
      refine (SinkAll_any _ _ v _ _ hat (by omega)).mono ?_
      rintro e w4 ⟨r4, rfl, hrow4, hb4⟩
      have hB4 := hB.trans (hb4.mono hB.size)
      have hbs4 := Bs.of_owns hrow4
      obtain ⟨A4, c4, rfl, hc4⟩ := hbs4.form
      clear hb4 hB hrow4 hat
      by_cases hz : (wrote l).length = 0
      · rw [hz]
        clear hbs4
        go_wp2
        go_ret
        exact ⟨rfl, hB4⟩
      have hz' : (((wrote l).length : Int) == 0) = false := by rw [beq_eq_false_iff_ne]; omega
      obtain ⟨m, hm⟩ : ∃ m, ct % (wrote l).length = m := ⟨_, rfl⟩
      have hml : m < (wrote l).length := hm ▸ Nat.mod_lt _ (by omega)
      have hrem : (ct : Int).tmod ((wrote l).length : Int) = (m : Int) := by rw [← hm]; rfl
      have hbm := hbs4.take (k := m) (by omega)
      have hpre : (wrote l).take m <+: wrote (l.drop 0) := by simpa using List.take_prefix m (wrote l)
      have hpl : ((wrote l).take m).length < (wrote (l.drop 0)).length := by simp; omega
      have HPL := Lib.hid hpl
      have HPRE := Lib.hid hpre
      clear hpl hpre hm hbs4
      go_wp2_with fail
      refine (From_any _ _ ((wrote l).take m) hbm (by simp; omega)).mono ?_
      rintro e w5 ⟨g5, v5, rfl, hat5, hg5, _, hb5⟩
      have hB5 := hB4.trans (hb5.mono hB4.size)
      have hg5' : w.heap.size ≤ g5 := Nat.le_trans hB4.size hg5
      clear hb5 hB4 hg5 hbm
      go_wp2_with fail
      go_loopw [93] (fun i wr => ∃ (k : Nat) (v : Value) (xs : List UInt8), k ≤ l.length ∧ i = .int .i64 k ∧ (xs <+: wrote (l.drop k) ∧ xs.length < (wrote (l.drop k)).length) ∧ SourceAt wr g5 v xs ∧ Below w.heap.size w wr) (fun i _ => l.length - (intOf i).toNat)
      case atStart => exact ⟨0, _, _, Nat.zero_le _, rfl, ⟨HPRE.out, HPL.out⟩, hat5, hB5⟩
      case round =>
        clear hat5 hB5 hrem hz' hml hc4 hz
        obtain ⟨k, v, xs, hk, rfl, ⟨hpx, hpl⟩, hat, hB⟩ := hrel
        by_cases hlt : k < l.length
        · obtain ⟨o, ho⟩ : ∃ o, l[k]? = some o := ⟨l[k], List.getElem?_eq_getElem hlt⟩
          have hwd : (wrote (l.drop k)).length ≤ 21000 := by
            have h1 : wrote l = wrote (l.take k) ++ wrote (l.drop k) := by unfold wrote; rw [← List.flatMap_append, List.take_append_drop]
            have h2 := congrArg List.length h1
            rw [List.length_append] at h2
            omega
          have hop := (hl k o ho).below hB
          have c0 := hop.c0
          have c1 := hop.c1
          have c2 := hop.c2
          have c3 := hop.c3
          obtain ⟨A, c, hv, hc⟩ := hop.bytes.form
          rw [hv] at c3
          rw [wrote_drop l k o ho] at hpx hpl
          have hsh : o.bs.length ≤ total l := by have h1 := total_take_succ l k o ho; have h2 := total_mono l (k + 1); omega
          have hxl : xs.length ≤ 21000 := by rw [← wrote_drop l k o ho] at hpl; omega
          have hcases := cut_cases hpx hpl
          clear hpx hpl hwd ho hv
          have hat' : SourceAt (wr.alloc (.cells #[.int .i64 o.kind, .int .i64 o.m, .int .u64 o.n, .slice A o.bs.length c] 30)) g5 v xs := hat.kept (T := fun _ => False) ((Kept.refl _ _).alloc _) (fun h => h) (fun _ _ h => h)
          have hg5lt := hat.box.lt
          have hk2 : ∀ (w6 : World), Kept (fun j => j = g5) (wr.alloc (.cells #[.int .i64 o.kind, .int .i64 o.m, .int .u64 o.n, .slice A o.bs.length c] 30)) w6 → Below w.heap.size w w6 := fun w6 h => by
            have hx := hB.alloc hB.size (.cells #[.int .i64 o.kind, .int .i64 o.m, .int .u64 o.n, .slice A o.bs.length c] 30)
            exact hx.trans (h.below (fun j _ t => by omega) hx.size)
          have HK := Lib.hid hk2
          clear hk2
          rcases (by omega : o.kind = 0 ∨ o.kind = 1 ∨ o.kind = 2 ∨ (o.kind ≠ 0 ∧ o.kind ≠ 1 ∧ o.kind ≠ 2)) with hk0 | hk0 | hk0 | ⟨hk0, hk1, hk2⟩
          · have hk0' : (o.kind == 0) = true := by simp [hk0]
            have hob : opBytes o = lebB o.n := by simp [opBytes, hk0]
            rw [hob] at hcases
            clear hob hk0
            have hres : (∃ t, back xs (numRes o.n xs) = (0, o.n, t) ∧ t <+: wrote (l.drop (k + 1)) ∧ t.length < (wrote (l.drop (k + 1))).length) ∨ back xs (numRes o.n xs) = (10, 0, xs) := by
              rcases hcases with ⟨t, rfl, h1, h2⟩ | ⟨h1, h2⟩
              · exact .inl ⟨t, num_back hop.small t, h1, h2⟩
              · exact .inr (num_short_back hop.small _ h1 h2)
            clear hcases
            go_wp2_with fail
            refine (SrcNumber_any _ g5 v _ hat' (by omega) o.n).mono ?_
            rcases hres with ⟨t, hr, h1, h2⟩ | hr
            · rw [hr]
              have HT := Lib.hid (And.intro h1 h2)
              clear h1 h2 hr
              rintro e w6 ⟨rfl, v6, hat6, hk6, _⟩
              have hB6 := HK.out w6 hk6
              dsimp only at hat6 ⊢
              clear hat' hk6 c0 c1 c2 c3
              go_wp2_with fail
              go_roundw
              case rel => exact ⟨k + 1, v6, t, by omega, by go_num, HT.out, hat6, hB6⟩
              case measure => simp [intOf]; omega
            · rw [hr]
              clear hr
              rintro e w6 ⟨rfl, v6, hat6, hk6, _⟩
              have hB6 := HK.out w6 hk6
              dsimp only at hat6 ⊢
              clear hat' hk6 c0 c1 c2 c3
              go_wp2
              go_ret
              exact ⟨rfl, hB6⟩
          · have hk0' : (o.kind == 0) = false := by simp [hk0]
            have hk1' : (o.kind == 1) = true := by simp [hk0]
            have hob : opBytes o = lebB o.bs.length ++ o.bs := by simp [opBytes, hk0]
            rw [hob] at hcases
            clear hob hk0
            have hres : (∃ t, back xs (bytesRes (o.bs.length : Int) xs) = (0, o.bs, t) ∧ t <+: wrote (l.drop (k + 1)) ∧ t.length < (wrote (l.drop (k + 1))).length) ∨ back xs (bytesRes (o.bs.length : Int) xs) = (10, [], xs) := by
              rcases hcases with ⟨t, rfl, h1, h2⟩ | ⟨h1, h2⟩
              · exact .inl ⟨t, bytes_back o.bs t (by omega), h1, h2⟩
              · exact .inr (bytes_short_back (by omega) h1 h2)
            clear hcases
            go_wp2_with fail
            refine (SrcBytes_any _ g5 v _ hat' (by omega) o.bs.length (by omega)).mono ?_
            rcases hres with ⟨t, hr, h1, h2⟩ | hr
            · rw [hr]
              have HT := Lib.hid (And.intro h1 h2)
              clear h1 h2 hr
              rintro e w6 ⟨r6, rfl, hrow6, v6, hat6, hk6, _⟩
              have hB6 := HK.out w6 hk6
              dsimp only at hat6 hrow6 ⊢
              clear hat' hk6 c0 c1 c2 c3 hrow6
              go_wp2_with fail
              go_roundw
              case rel => exact ⟨k + 1, v6, t, by omega, by go_num, HT.out, hat6, hB6⟩
              case measure => simp [intOf]; omega
            · rw [hr]
              clear hr
              rintro e w6 ⟨r6, rfl, hrow6, v6, hat6, hk6, _⟩
              have hB6 := HK.out w6 hk6
              dsimp only at hat6 hrow6 ⊢
              clear hat' hk6 c0 c1 c2 c3 hrow6
              go_wp2
              go_ret
              exact ⟨rfl, hB6⟩
          · have hk0' : (o.kind == 0) = false := by simp [hk0]
            have hk1' : (o.kind == 1) = false := by simp [hk0]
            have hk2' : (o.kind == 2) = true := by simp [hk0]
            have hob : opBytes o = o.bs := by simp [opBytes, hk0]
            rw [hob] at hcases
            clear hob hk0
            have hres : (∃ t, back xs (rawRes (o.bs.length : Int) xs) = (0, o.bs, t) ∧ t <+: wrote (l.drop (k + 1)) ∧ t.length < (wrote (l.drop (k + 1))).length) ∨ back xs (rawRes (o.bs.length : Int) xs) = (10, [], xs) := by
              rcases hcases with ⟨t, rfl, h1, h2⟩ | ⟨h1, h2⟩
              · exact .inl ⟨t, raw_back o.bs t, h1, h2⟩
              · exact .inr (raw_short_back h2)
            clear hcases
            go_wp2_with fail
            refine (SrcRaw_any _ g5 v _ hat' (by omega) o.bs.length).mono ?_
            rcases hres with ⟨t, hr, h1, h2⟩ | hr
            · rw [hr]
              have HT := Lib.hid (And.intro h1 h2)
              clear h1 h2 hr
              rintro e w6 ⟨r6, rfl, hrow6, v6, hat6, hk6, _⟩
              have hB6 := HK.out w6 hk6
              dsimp only at hat6 hrow6 ⊢
              clear hat' hk6 c0 c1 c2 c3 hrow6
              go_wp2_with fail
              go_roundw
              case rel => exact ⟨k + 1, v6, t, by omega, by go_num, HT.out, hat6, hB6⟩
              case measure => simp [intOf]; omega
            · rw [hr]
              clear hr
              rintro e w6 ⟨r6, rfl, hrow6, v6, hat6, hk6, _⟩
              have hB6 := HK.out w6 hk6
              dsimp only at hat6 hrow6 ⊢
              clear hat' hk6 c0 c1 c2 c3 hrow6
              go_wp2
              go_ret
              exact ⟨rfl, hB6⟩
          · have hk0' : (o.kind == 0) = false := by simp [hk0]
            have hk1' : (o.kind == 1) = false := by simp [hk1]
            have hk2' : (o.kind == 2) = false := by simp [hk2]
            have hob : opBytes o = [] := by simp [opBytes, hk0, hk1, hk2]
            rw [hob] at hcases
            clear hob hk0 hk1 hk2
            have hres : xs <+: wrote (l.drop (k + 1)) ∧ xs.length < (wrote (l.drop (k + 1))).length := by
              rcases hcases with ⟨t, rfl, h1, h2⟩ | ⟨h1, h2⟩
              · exact ⟨h1, h2⟩
              · simp at h2
            have HT := Lib.hid hres
            have HAT := Lib.hid hat'
            clear hcases hat' hres
            go_wp2_with fail
            go_roundw
            case rel => exact ⟨k + 1, v, xs, by omega, by go_num, HT.out, HAT.out, hB.alloc hB.size _⟩
            case measure => simp [intOf]; omega
        · obtain rfl : k = l.length := by omega
          simp [wrote] at hpl

set_option maxHeartbeats 400000 in
theorem cut_great (A : Option Addr) (n cap : Nat) (ct : Int) (w : World) (hg : ∀ w', Below w.heap.size w w' → Calls Try.prog 10 #[.slice A n cap] w' fun e W' => e = .returned (.bool true) ∧ w' = W') :
    Calls Try.prog 9 #[.slice A n cap, .int .u16 ct] w fun e W' => e = .returned (.bool true) ∧ Below w.heap.size w W' := by
  have HG := Lib.hid hg
  clear hg
  go_enter Try.func9, Try.ntmps9
  go_wp2_with fail
  refine (alive_any _).mono ?_
  rintro e w1 ⟨rfl, h1⟩
  go_wp2_with fail
  refine (HG.out w1 h1).mono ?_
  rintro e w2 ⟨rfl, rfl⟩
  go_wp2
  go_ret
  exact ⟨rfl, h1⟩

set_option maxRecDepth 100000 in
set_option maxHeartbeats 1000000 in
theorem cut_none (A : Option Addr) (cap : Nat) (ct : Int) (w : World) :
    Calls Try.prog 9 #[.slice A 0 cap, .int .u16 ct] w fun e W' => e = .returned (.bool true) ∧ Below w.heap.size w W' := by
  go_enter Try.func9, Try.ntmps9
  go_wp2_with fail
  refine (alive_any _).mono ?_
  rintro e w1 ⟨rfl, h1⟩
  go_wp2_with fail
  refine (great_nil A cap w1).mono ?_
  rintro e w2 ⟨rfl, rfl⟩
  have b0 := Boxed.new w1 26 (.slice none 0 0)
  have hat0 : SinkAt (w1.alloc (.cells #[.slice none 0 0] 26)) w.heap.size w1.heap.size (.slice none 0 0) [] := ⟨b0, World.ownsRow_nil _ _ _ _⟩
  have hB2 : Below w.heap.size w (w1.alloc (.cells #[.slice none 0 0] 26)) := h1.alloc h1.size _
  go_wp2_with fail
  go_loopw [7, 25] (fun wt i wr => i = .int .i64 0 ∧ wt = .int .i64 0 ∧ SinkAt wr w.heap.size w1.heap.size (.slice none 0 0) [] ∧ Below w.heap.size w wr) (fun _ _ _ => 0)
  case atStart => exact ⟨rfl, rfl, hat0, hB2⟩
  case round =>
    obtain ⟨rfl, rfl, hat, hB⟩ := hrel
    clear hat0 b0 hB2 h1
    go_wp2_with fail
    refine (SinkAll_any _ _ _ _ _ hat (by simp)).mono ?_
    rintro e w4 ⟨r4, rfl, hrow4, hb4⟩
    have hB4 := hB.trans (hb4.mono hB.size)
    obtain ⟨A4, c4, rfl, hc4⟩ := (Bs.of_owns hrow4).form
    clear hb4 hB hrow4 hat
    simp only [List.length_nil]
    go_wp2
    go_ret
    exact ⟨rfl, hB4⟩

/-- For all calls and cuts. -/
theorem cut_any (b off cap : Nat) (l : List OpV) (ct : Nat) (hct : ct < 65536) (w : World) (hl : OpsAt w b off l) (hn : 0 < l.length) (hm : l.length ≤ 9223372036854775807) :
    Calls Try.prog 9 #[.slice (some ⟨b, off, none⟩) l.length cap, .int .u16 ct] w fun e W' => e = .returned (.bool true) ∧ Below w.heap.size w W' := by
  by_cases h1 : l.length ≤ 100 ∧ total l ≤ 20000
  · exact cut_some b off cap l ct hct w hl hn h1.1 h1.2
  · refine cut_great _ _ _ _ w fun w' hb => ?_
    have h := great_any b off cap l w' (fun i o ho => (hl i o ho).below hb) hn hm
    have hg : (decide (100 < l.length) || decide (20000 < total l)) = true := by simp; omega
    rw [hg] at h
    exact h
end Go.Proofs.Ytgapabbhjocflaa
