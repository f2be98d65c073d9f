/- The walk of LebFirst. -/
import Derived.Test.YtgapabbhjocflaaLebLawA
namespace Go.Proofs.Ytgapabbhjocflaa
open Go.RowKit

theorem eq_true_of {a b : List UInt8} (h : a = b) : (a == b) = true := by simp [h]
theorem eq_false_of {a b : List UInt8} (h : ¬ a = b) : (a == b) = false := by simp [h]

theorem int_eq_true {a b : Nat} (h : a = b) : ((a : Int) == (b : Int)) = true := by simp [h]
theorem int_eq_false {a b : Nat} (h : ¬ a = b) : ((a : Int) == (b : Int)) = false := by simp; omega

/-- How two numbers stand to each other, and their bytes. -/
theorem first_cases (a b : Nat) (ha : a < 18446744073709551616) (hb : b < 18446744073709551616) :
    (((a : Int) == (b : Int)) = true ∧ a ≤ b ∧ ((({ data := (lebB b).toArray } : ByteArray).extract 0 (lebB a).length).toList == lebB a) = true ∧ (lebB a).length ≤ (lebB b).length ∧ decide ((lebB b).length < (lebB a).length) = false) ∨
    (((a : Int) == (b : Int)) = false ∧ a ≤ b ∧ ((({ data := (lebB b).toArray } : ByteArray).extract 0 (lebB a).length).toList == lebB a) = false ∧ (lebB a).length ≤ (lebB b).length ∧ decide ((lebB b).length < (lebB a).length) = false) ∨
    (((a : Int) == (b : Int)) = false ∧ ¬ a ≤ b ∧ ((({ data := (lebB b).toArray } : ByteArray).extract 0 (lebB a).length).toList == lebB a) = false ∧ (lebB a).length ≤ (lebB b).length) ∨
    (((a : Int) == (b : Int)) = false ∧ ¬ a ≤ b ∧ ¬ (lebB a).length ≤ (lebB b).length) := by
  rw [str_take]
  have hne : ¬ a = b → ¬ (lebB b).take (lebB a).length = lebB a := fun h e => h (lebB_begins ha hb ((lebB b).drop (lebB a).length) (by have := List.take_append_drop (lebB a).length (lebB b); rw [e] at this; exact this.symm))
  by_cases h : a = b
  · exact .inl ⟨int_eq_true h, by omega, by subst h; simp, by subst h; exact Nat.le_refl _, by subst h; simp⟩
  · rcases Nat.lt_or_ge a b with h1 | h1
    · have := lebB_mono b a b (Nat.le_refl _) (by omega)
      exact .inr (.inl ⟨int_eq_false h, by omega, eq_false_of (hne h), this, by simp; omega⟩)
    · by_cases h2 : (lebB a).length ≤ (lebB b).length
      · exact .inr (.inr (.inl ⟨int_eq_false h, by omega, eq_false_of (hne h), h2⟩))
      · exact .inr (.inr (.inr ⟨int_eq_false h, by omega, h2⟩))

/-- The greatest number. -/
def top64 : Nat := 18446744073709551615
/-- What is read of bytes, without a bound. -/
theorem first_read (xs : List UInt8) : (∃ er : Int, er ≠ 0 ∧ back xs (numRes top64 xs) = (er, 0, xs)) ∨
    (∃ n rest, n < 18446744073709551616 ∧ xs = lebB n ++ rest ∧ back xs (numRes top64 xs) = (0, n, rest)) := by
  unfold numRes back top64
  by_cases h : (scan 0 0 xs).1 = 0
  · obtain ⟨n, rest, hr⟩ : ∃ n rest, scan 0 0 xs = (0, n, rest) := ⟨_, _, by rw [← h]⟩
    obtain ⟨h1, h2⟩ := scan_told hr
    refine .inr ⟨n, rest, h2, h1, ?_⟩
    rw [hr]
    simp
    rw [if_neg (by omega)]
    simp
  · exact .inl ⟨_, h, by simp [h]⟩

theorem SrcNumber_top (w : World) (g : Nat) (v : Value) (xs : List UInt8) (hat : SourceAt w g v xs) (hlen : xs.length ≤ 140737488355328) (r : Int × Nat × List UInt8) (hr : back xs (numRes top64 xs) = r) :
    Calls Try.prog 20 #[.pointer (some ⟨g, 0, none⟩), .int .u64 18446744073709551615] w (NumOut w g v r) := by
  subst hr
  exact SrcNumber_any w g v xs hat hlen top64

set_option maxRecDepth 100000 in
set_option maxHeartbeats 4000000 in
theorem first_err (a b : Nat) (ha : a < 18446744073709551616) (hb : b < 18446744073709551616) (v : Value) (xs : List UInt8) (w : World) (hs : Bs w v xs) (hlen : xs.length ≤ 100) (er : Int) (her : er ≠ 0) (hbk : back xs (numRes top64 xs) = (er, 0, xs)) :
    Calls Try.prog 7 #[.int .u64 a, .int .u64 b, v] w fun e W' => e = .returned (.bool true) ∧ Below w.heap.size w W' := by
  obtain ⟨A, c, rfl, hc⟩ := hs.form
  have HB := Lib.hid hbk
  clear hbk
  have hne : (er != 0) = true := by simp [her]
  have hla := lebB_u64 ha
  have hlb := lebB_u64 hb
  have h100 : decide ((100 : Int) < (xs.length : Int)) = false := by simp; omega
  rcases first_cases a b ha hb with ⟨heq, hab, hE, hle, hmo⟩ | ⟨heq, hab, hE, hle, hmo⟩ | ⟨heq, hab, hE, hle⟩ | ⟨heq, hab, hle⟩
  all_goals
    go_enter Try.func7, Try.ntmps7
    go_wp2_with fail
    refine (alive_any _).mono ?_
    rintro e w1 ⟨rfl, h1⟩
    go_wp2_with fail
    refine (number_any a ha _).mono ?_
    rintro e w2 ⟨rfl, h2⟩
    go_wp2_with fail
    refine (number_any b hb _).mono ?_
    rintro e w3 ⟨rfl, h3⟩
    go_wp2_with fail
    have hB3 : Below w.heap.size w w3 := by have x := h1.trans (h2.mono h1.size); exact x.trans (h3.mono x.size)
    clear h1 h2 h3
    refine (Size_any a ha _).mono ?_
    rintro e w4 ⟨rfl, h4⟩
    go_wp2_with fail
    have hB4 : Below w.heap.size w w4 := hB3.trans (h4.mono hB3.size)
    clear hB3 h4
  all_goals first
    | ((with_reducible refine (Size_any b hb _).mono ?_)
       rintro e w5 ⟨rfl, h5⟩
       go_wp2_with fail
       (with_reducible refine (Size_any a ha _).mono ?_)
       rintro e w6 ⟨rfl, h6⟩
       go_wp2_with fail
       have hBf : Below w.heap.size w w6 := by have x := hB4.trans (h5.mono hB4.size); exact x.trans (h6.mono x.size)
       clear hB4 h5 h6)
    | (have hBf := hB4
       clear hB4)
  all_goals
    clear heq hab hla hlb
    have hs4 := hs.below hBf
    (with_reducible refine (From_any _ _ xs hs4 (by omega)).mono ?_)
    rintro e w7 ⟨g, v7, rfl, hat7, hg7, hr7, hb7⟩
    have hB7 := hBf.trans (hb7.mono hBf.size)
    clear hs4 hb7
    go_wp2_with fail
    refine (SrcNumber_top w7 g v7 xs hat7 (by omega) _ HB.out).mono ?_
    rintro e w8 ⟨rfl, v8, hat8, hk8, hv8⟩
    have hB8 := hB7.trans (hk8.below (B := w.heap.size) (fun j _ t => by have := hBf.size; omega) hB7.size)
    clear hk8 hv8 hat7
    dsimp only at hat8 ⊢
    go_wp2_with fail
    refine (SrcLeft_any w8 g v8 xs hat8).mono ?_
    rintro e w9 ⟨rfl, rfl⟩
    go_wp2
    go_ret
    exact ⟨rfl, hB8⟩

set_option maxRecDepth 100000 in
set_option maxHeartbeats 2000000 in
theorem first_ok (a b : Nat) (ha : a < 18446744073709551616) (hb : b < 18446744073709551616) (v : Value) (xs : List UInt8) (w : World) (hs : Bs w v xs) (hlen : xs.length ≤ 100) (n : Nat) (rest : List UInt8) (hn : n < 18446744073709551616) (hxs : xs = lebB n ++ rest) (hbk : back xs (numRes top64 xs) = (0, n, rest)) :
    Calls Try.prog 7 #[.int .u64 a, .int .u64 b, v] w fun e W' => e = .returned (.bool true) ∧ Below w.heap.size w W' := by
  obtain ⟨A, c, rfl, hc⟩ := hs.form
  have HB := Lib.hid hbk
  have HX := Lib.hid hxs
  clear hbk hxs
  have hla := lebB_u64 ha
  have hlb := lebB_u64 hb
  have h100 : decide ((100 : Int) < (xs.length : Int)) = false := by simp; omega
  rcases first_cases a b ha hb with ⟨heq, hab, hE, hle, hmo⟩ | ⟨heq, hab, hE, hle, hmo⟩ | ⟨heq, hab, hE, hle⟩ | ⟨heq, hab, hle⟩
  all_goals
    go_enter Try.func7, Try.ntmps7
    go_wp2_with fail
    refine (alive_any _).mono ?_
    rintro e w1 ⟨rfl, h1⟩
    go_wp2_with fail
    refine (number_any a ha _).mono ?_
    rintro e w2 ⟨rfl, h2⟩
    go_wp2_with fail
    refine (number_any b hb _).mono ?_
    rintro e w3 ⟨rfl, h3⟩
    go_wp2_with fail
    have hB3 : Below w.heap.size w w3 := by have x := h1.trans (h2.mono h1.size); exact x.trans (h3.mono x.size)
    clear h1 h2 h3
    refine (Size_any a ha _).mono ?_
    rintro e w4 ⟨rfl, h4⟩
    go_wp2_with fail
    have hB4 : Below w.heap.size w w4 := hB3.trans (h4.mono hB3.size)
    clear hB3 h4
  all_goals first
    | ((with_reducible refine (Size_any b hb _).mono ?_)
       rintro e w5 ⟨rfl, h5⟩
       go_wp2_with fail
       (with_reducible refine (Size_any a ha _).mono ?_)
       rintro e w6 ⟨rfl, h6⟩
       go_wp2_with fail
       have hBf : Below w.heap.size w w6 := by have x := hB4.trans (h5.mono hB4.size); exact x.trans (h6.mono x.size)
       clear hB4 h5 h6)
    | (have hBf := hB4
       clear hB4)
  all_goals
    clear heq hab hla hlb
    have hs4 := hs.below hBf
    (with_reducible refine (From_any _ _ xs hs4 (by omega)).mono ?_)
    rintro e w7 ⟨g, v7, rfl, hat7, hg7, hr7, hb7⟩
    have hB7 := hBf.trans (hb7.mono hBf.size)
    clear hs4 hb7
    go_wp2_with fail
    refine (SrcNumber_top w7 g v7 xs hat7 (by omega) _ HB.out).mono ?_
    rintro e w8 ⟨rfl, v8, hat8, hk8, hv8⟩
    have hB8 := hB7.trans (hk8.below (B := w.heap.size) (fun j _ t => by have := hBf.size; omega) hB7.size)
    clear hk8 hv8 hat7
    dsimp only at hat8 ⊢
    have hlx : xs.length = (lebB n).length + rest.length := by rw [HX.out]; simp
    have hlr : (rest.length : Int) ≤ (xs.length : Int) := by omega
    have hmany : (xs.length : Int) - (rest.length : Int) = ((lebB n).length : Int) := by omega
    have HL := Lib.hid hlx
    clear hlx
    go_wp2_with fail
    refine (SrcLeft_any w8 g v8 rest hat8).mono ?_
    rintro e w9 ⟨rfl, rfl⟩
    go_wp2_with fail
    have hcv : ∀ W1, Below w.heap.size w W1 → (convert 24 9 (.slice A (lebB n).length c)).run Try.prog W1 = .ok (Str (lebB n)) W1 := fun W1 hW1 => by
      have h := (hs.take (k := (lebB n).length) (by have := HL.out; omega)).below hW1
      rw [show xs.take (lebB n).length = lebB n by rw [HX.out]; simp] at h
      exact run_string_bs W1 24 9 5 Try.underlying24 Try.underlying5 Try.underlying9 h
    have hln : (lebB n).length ≤ xs.length := by have := HL.out; omega
    have hlnc : (lebB n).length ≤ c := by omega
    have HCV := Lib.hid hcv
    have hBX := hB8.drew
    clear hcv hB7 hBf hat8 hmany hlr
    refine wp_held (fun W1 => Below w.heap.size w W1) (by kernel_rfl) ?_
    refine wpAnyH_next (i := 0) (v := .bool true) rfl (by kernel_rfl) (by kernel_rfl) (by kernel_rfl) (fun _ _ _ h => h) (by kernel_rfl) (fun W1 hW1 => by go_simp) hBX (fun a' ha' => ?_)
    simp only [Act.put, List.getElem_toArray, List.getElem_cons_succ, List.getElem_cons_zero, List.setIfInBounds_toArray, List.set_cons_succ, List.set_cons_zero] at ha'
    subst ha'
    refine wpAnyH_next (i := 1) (v := .bool true) rfl (by kernel_rfl) (by kernel_rfl) (by kernel_rfl) (fun _ _ _ h => h) (by kernel_rfl) (fun W1 hW1 => by go_simp) hBX (fun a' ha' => ?_)
    simp only [Act.put, List.getElem_toArray, List.getElem_cons_succ, List.getElem_cons_zero, List.setIfInBounds_toArray, List.set_cons_succ, List.set_cons_zero] at ha'
    subst ha'
    refine wpAnyH_next (i := 2) (v := .int .i64 ((lebB n).length : Int)) rfl (by kernel_rfl) (by kernel_rfl) (by kernel_rfl) (fun _ _ _ h => h) (by kernel_rfl) (fun W1 hW1 => by go_simp) hBX (fun a' ha' => ?_)
    simp only [Act.put, List.getElem_toArray, List.getElem_cons_succ, List.getElem_cons_zero, List.setIfInBounds_toArray, List.set_cons_succ, List.set_cons_zero] at ha'
    subst ha'
    refine wpAnyH_next (i := 3) (v := .int .u64 n) rfl (by kernel_rfl) (by kernel_rfl) (by kernel_rfl) (fun _ _ _ h => h) (by kernel_rfl) (fun W1 hW1 => by go_simp) hBX (fun a' ha' => ?_)
    simp only [Act.put, List.getElem_toArray, List.getElem_cons_succ, List.getElem_cons_zero, List.setIfInBounds_toArray, List.set_cons_succ, List.set_cons_zero] at ha'
    subst ha'
    refine wpAnyH_want (i := 4) (by kernel_rfl) rfl (by kernel_rfl) (fun K hK => ?_)
    unfold Oper.wp
    go_simp
    refine (Size_any n hn _).mono ?_
    rintro e w10 ⟨rfl, h10⟩
    replace hBX : Below w.heap.size w w10 := hBX.trans (h10.mono hBX.size)
    refine hK _ _ hBX ?_
    clear hK K h10
    refine wpAnyH_next (i := 5) (v := .bool true) rfl (by kernel_rfl) (by kernel_rfl) (by kernel_rfl) (fun _ _ _ h => h) (by kernel_rfl) (fun W1 hW1 => by go_simp) hBX (fun a' ha' => ?_)
    simp only [Act.put, List.getElem_toArray, List.getElem_cons_succ, List.getElem_cons_zero, List.setIfInBounds_toArray, List.set_cons_succ, List.set_cons_zero] at ha'
    subst ha'
    refine wpAnyH_next (i := 6) (v := .bool true) rfl (by kernel_rfl) (by kernel_rfl) (by kernel_rfl) (fun _ _ _ h => h) (by kernel_rfl) (fun W1 hW1 => by go_simp) hBX (fun a' ha' => ?_)
    simp only [Act.put, List.getElem_toArray, List.getElem_cons_succ, List.getElem_cons_zero, List.setIfInBounds_toArray, List.set_cons_succ, List.set_cons_zero] at ha'
    subst ha'
    refine wpAnyH_next (i := 7) (v := .bool true) rfl (by kernel_rfl) (by kernel_rfl) (by kernel_rfl) (fun _ _ _ h => h) (by kernel_rfl) (fun W1 hW1 => by go_simp) hBX (fun a' ha' => ?_)
    simp only [Act.put, List.getElem_toArray, List.getElem_cons_succ, List.getElem_cons_zero, List.setIfInBounds_toArray, List.set_cons_succ, List.set_cons_zero] at ha'
    subst ha'
    refine wpAnyH_next (i := 8) (v := .int .u64 n) rfl (by kernel_rfl) (by kernel_rfl) (by kernel_rfl) (fun _ _ _ h => h) (by kernel_rfl) (fun W1 hW1 => by go_simp) hBX (fun a' ha' => ?_)
    simp only [Act.put, List.getElem_toArray, List.getElem_cons_succ, List.getElem_cons_zero, List.setIfInBounds_toArray, List.set_cons_succ, List.set_cons_zero] at ha'
    subst ha'
    refine wpAnyH_next (i := 10) (v := .slice A xs.length c) rfl (by kernel_rfl) (by kernel_rfl) (by kernel_rfl) (fun _ _ _ h => h) (by kernel_rfl) (fun W1 hW1 => by go_simp) hBX (fun a' ha' => ?_)
    simp only [Act.put, List.getElem_toArray, List.getElem_cons_succ, List.getElem_cons_zero, List.setIfInBounds_toArray, List.set_cons_succ, List.set_cons_zero] at ha'
    subst ha'
    refine wpAnyH_next (i := 11) (v := .int .i64 ((lebB n).length : Int)) rfl (by kernel_rfl) (by kernel_rfl) (by kernel_rfl) (fun _ _ _ h => h) (by kernel_rfl) (fun W1 hW1 => by go_simp) hBX (fun a' ha' => ?_)
    simp only [Act.put, List.getElem_toArray, List.getElem_cons_succ, List.getElem_cons_zero, List.setIfInBounds_toArray, List.set_cons_succ, List.set_cons_zero] at ha'
    subst ha'
    refine wpAnyH_next (i := 12) (v := .slice A (lebB n).length c) rfl (by kernel_rfl) (by kernel_rfl) (by kernel_rfl) (fun _ _ _ h => h) (by kernel_rfl) (fun W1 hW1 => by go_simp) hBX (fun a' ha' => ?_)
    simp only [Act.put, List.getElem_toArray, List.getElem_cons_succ, List.getElem_cons_zero, List.setIfInBounds_toArray, List.set_cons_succ, List.set_cons_zero] at ha'
    subst ha'
    refine wpAnyH_next (i := 13) (v := Str (lebB n)) rfl (by kernel_rfl) (by kernel_rfl) (by kernel_rfl) (fun _ _ _ h => h) (by kernel_rfl) (fun W1 hW1 => by have h := HCV.out W1 hW1; go_simp) hBX (fun a' ha' => ?_)
    simp only [Act.put, List.getElem_toArray, List.getElem_cons_succ, List.getElem_cons_zero, List.setIfInBounds_toArray, List.set_cons_succ, List.set_cons_zero] at ha'
    subst ha'
    refine wpAnyH_want (i := 9) (by kernel_rfl) rfl (by kernel_rfl) (fun K hK => ?_)
    unfold Oper.wp
    go_simp
    refine (number_any n hn _).mono ?_
    rintro e w11 ⟨rfl, h11⟩
    replace hBX : Below w.heap.size w w11 := hBX.trans (h11.mono hBX.size)
    refine hK _ _ hBX ?_
    clear hK K h11
    refine wpAnyH_next (i := 14) (v := .bool true) rfl (by kernel_rfl) (by kernel_rfl) (by kernel_rfl) (fun _ _ _ h => h) (by kernel_rfl) (fun W1 hW1 => by go_simp) hBX (fun a' ha' => ?_)
    simp only [Act.put, List.getElem_toArray, List.getElem_cons_succ, List.getElem_cons_zero, List.setIfInBounds_toArray, List.set_cons_succ, List.set_cons_zero] at ha'
    subst ha'
    refine wpAnyH_next (i := 15) (v := .bool true) rfl (by kernel_rfl) (by kernel_rfl) (by kernel_rfl) (fun _ _ _ h => h) (by kernel_rfl) (fun W1 hW1 => by go_simp) hBX (fun a' ha' => ?_)
    simp only [Act.put, List.getElem_toArray, List.getElem_cons_succ, List.getElem_cons_zero, List.setIfInBounds_toArray, List.set_cons_succ, List.set_cons_zero] at ha'
    subst ha'
    refine wpAnyH_next (i := 16) (v := .bool true) rfl (by kernel_rfl) (by kernel_rfl) (by kernel_rfl) (fun _ _ _ h => h) (by kernel_rfl) (fun W1 hW1 => by go_simp) hBX (fun a' ha' => ?_)
    simp only [Act.put, List.getElem_toArray, List.getElem_cons_succ, List.getElem_cons_zero, List.setIfInBounds_toArray, List.set_cons_succ, List.set_cons_zero] at ha'
    subst ha'
    refine wpAnyH_fin (by kernel_rfl) ?_ _
    go_wp2
    go_ret
    exact ⟨rfl, hBX⟩

set_option maxHeartbeats 400000 in
theorem first_long (a b : Int) (A : Option Addr) (n c : Nat) (hn : 100 < n) (hn' : n ≤ 9223372036854775807) (w : World) :
    Calls Try.prog 7 #[.int .u64 a, .int .u64 b, .slice A n c] w fun e W' => e = .returned (.bool true) ∧ Below w.heap.size w W' := by
  have h100 : decide ((100 : Int) < (n : Int)) = true := by simp; omega
  go_enter Try.func7, Try.ntmps7
  go_wp2_with fail
  refine (alive_any _).mono ?_
  rintro e w1 ⟨rfl, h1⟩
  go_wp2
  go_ret
  exact ⟨rfl, h1⟩

/-- LebFirst, of a slice that reads as bytes. -/
theorem first_any (a b : Nat) (ha : a < 18446744073709551616) (hb : b < 18446744073709551616) (v : Value) (xs : List UInt8) (w : World) (hs : Bs w v xs) (hm : xs.length ≤ 9223372036854775807) :
    Calls Try.prog 7 #[.int .u64 a, .int .u64 b, v] w fun e W' => e = .returned (.bool true) ∧ Below w.heap.size w W' := by
  by_cases hlen : xs.length ≤ 100
  · rcases first_read xs with ⟨er, her, hbk⟩ | ⟨n, rest, hn, hxs, hbk⟩
    · exact first_err a b ha hb v xs w hs hlen er her hbk
    · exact first_ok a b ha hb v xs w hs hlen n rest hn hxs hbk
  · obtain ⟨A, c, rfl, hc⟩ := hs.form
    exact first_long a b A xs.length c (by omega) hm w
end Go.Proofs.Ytgapabbhjocflaa
