/- The reference of layer 4: Conflict, Split. -/
import Derived.Test.YtldgnkngjdgiaaaDoorRefnRest
import Derived.Test.YtldgnkngjdgiaaaDoorHashRefParse
namespace Go.Proofs.YtldgnkngjdgiaaaDoor
open Go.RowKit Go.Great

/-- A conflict name, and the error. -/
def conflictR (ref tip : List UInt8) : List UInt8 × Nat := if breaksB ref = 0 then (ref ++ 126 :: textB tip, 0) else ([], 40)
set_option maxRecDepth 100000 in
set_option maxHeartbeats 1000000 in
theorem r4Conflict_any (w : World) (ref tip : List UInt8) (hr : ref.length ≤ 1000) (ht : tip.length = 32) :
    Calls Tryd.prog 19 #[Str ref, IdV tip] w fun e W' => e = .returned (.tuple #[Str (conflictR ref tip).1, .int .i64 ((conflictR ref tip).2 : Nat)]) ∧ Below w.heap.size w W' := by
  have hsz : (⟨ref.toArray⟩ : ByteArray).size = ref.length := by simp [ByteArray.size]
  have b1 := IdAt.box w tip 30
  have hB0 : Below w.heap.size w (w.alloc (.cells (tip.map B8).toArray 30)) := (Below.refl _ w).alloc (Nat.le_refl _) _
  have hc := r4Check_any (w.alloc (.cells (tip.map B8).toArray 30)) ref (by omega)
  obtain ⟨R, hR⟩ : ∃ R, R = conflictR ref tip := ⟨_, rfl⟩
  rw [← hR]
  have HR := Lib.hid hR
  clear hR
  go_enter Tryd.func19, Tryd.ntmps19
  go_wp2_with fail
  refine hc.mono ?_
  rintro e w1 ⟨rfl, h1⟩
  have b2 := b1.below h1
  have hB1 := hB0.trans (h1.mono hB0.size)
  clear hc b1
  by_cases h0 : breaksB ref = 0
  · rw [checkN_zero.2 h0]
    have HE := Lib.hid (show R = (ref ++ 126 :: textB tip, 0) by rw [HR.out, conflictR, if_pos h0])
    have hlT : (⟨(textB tip).toArray⟩ : ByteArray).size = 64 := by simp [ByteArray.size, textB_length, ht]
    clear HR h0
    go_wp2_with (refine wpList_load_id rfl (.tmp 3) rfl rfl ht b2 ?_)
    refine (rText_any w1 tip ht).mono ?_
    rintro e w2 ⟨rfl, h2⟩
    go_wp2
    refine bodyPost_ret (results_tmp2 rfl _ _ _) rfl ?_
    rw [HE.out]
    refine ⟨?_, hB1.trans (h2.mono hB1.size)⟩
    show Ending.returned (.tuple #[.string (_ ++ _ ++ _), _]) = _
    rw [str_cat, str_cat]
    simp
  · have hc : checkN ref = 40 := by unfold checkN; rw [if_neg h0]
    have HE := Lib.hid (show R = ([], 40) by rw [HR.out, conflictR, if_neg h0])
    rw [hc]
    clear HR h0 hc
    go_wp2
    refine bodyPost_ret (results_tmp2 rfl _ _ _) rfl ?_
    rw [HE.out]
    exact ⟨rfl, hB1⟩

/-- Where the first tilde stands. -/
def tilde : List UInt8 → Option Nat
  | [] => none
  | c :: r => if c = 126 then some 0 else (tilde r).map (· + 1)
/-- As the loop has it, of what stands from k on. -/
def tildeI (s : List UInt8) (k : Nat) : Int := match tilde (s.drop k) with | some j => ((k + j : Nat) : Int) | none => -1
theorem tildeI_step {s : List UInt8} {p : Nat} {c : UInt8} (hc : s[p]? = some c) : tildeI s p = if c = 126 then (p : Int) else tildeI s (p + 1) := by
  obtain ⟨h1, rfl⟩ := List.getElem?_eq_some_iff.1 hc
  unfold tildeI
  rw [List.drop_eq_getElem_cons h1, tilde]
  by_cases h : s[p] = 126
  · rw [if_pos h, if_pos h]
    simp
  · rw [if_neg h, if_neg h]
    cases tilde (s.drop (p + 1)) with
    | none => rfl
    | some j => simp only [Option.map_some]; omega
theorem tildeI_end (s : List UInt8) : tildeI s s.length = -1 := by
  unfold tildeI
  rw [List.drop_length]
  rfl
theorem tilde_lt : ∀ (s : List UInt8) (j : Nat), tilde s = some j → j < s.length
  | [], j, h => by simp [tilde] at h
  | c :: r, j, h => by
    rw [tilde] at h
    split at h
    · cases h; simp
    · obtain ⟨i, hi, rfl⟩ := Option.map_eq_some_iff.1 h
      have := tilde_lt r i hi
      simp only [List.length_cons]
      omega
/-- What a name is made of: ref, tip, whether it is a conflict name, the error. -/
def splitR (s : List UInt8) : List UInt8 × List UInt8 × Bool × Nat :=
  match tilde s with
  | none => if breaksB s = 0 then (s, zeroID, false, 0) else ([], zeroID, false, 40)
  | some j => if (parseR (s.drop (j + 1))).1 = 0 ∧ breaksB (s.take j) = 0 then (s.take j, (parseR (s.drop (j + 1))).2, true, 0) else ([], zeroID, false, 40)
theorem results_id4 {fn : Func} {t a b c : Tmp} (h : fn.results = #[.tmp a, .cell t 30, .tmp b, .tmp c]) (tmps : Array Value) {w : World} {g : Nat} {xs : List UInt8} (ht : tmps.getD t undef = .pointer (some ⟨g, 0, none⟩)) (hb : BoxI w g xs) :
    (results fn tmps).run Tryd.prog w = .ok (.tuple #[tmps.getD a undef, IdV xs, tmps.getD b undef, tmps.getD c undef]) w := by
  have hl := run_loadVar_mid (P := Tryd.prog) w g 0 30 (xs.map B8) _ hb.at Tryd.underlying30 rfl (sizeID hb.1)
  rw [Array.getD_eq_getD_getElem?] at ht
  simp [results, h, ht, asAddr, hl]
theorem parseB_len4 : ∀ (s xs : List UInt8), parseB s = some xs → 2 * xs.length = s.length := by
  intro s
  induction s using parseB.induct with
  | case1 a b r h => intro xs hx; rw [parseB, if_pos h] at hx; cases hx
  | case2 a b r h ih =>
    intro xs hx
    rw [parseB, if_neg h] at hx
    obtain ⟨ys, hy, rfl⟩ := Option.map_eq_some_iff.1 hx
    have := ih ys hy
    simp only [List.length_cons]
    omega
  | case3 => intro xs hx; cases hx; rfl
  | case4 a => intro xs hx; cases hx
theorem parseR_len4 (s : List UInt8) : (parseR s).2.length = 32 := by
  unfold parseR
  split
  · next h =>
    split
    · next xs hx => have := parseB_len4 s xs hx; show xs.length = 32; omega
    · exact zeroID_length
  · exact zeroID_length
set_option maxRecDepth 100000 in
set_option maxHeartbeats 4000000 in
theorem r4Split_any (w : World) (s : List UInt8) (hs : s.length ≤ 1000) :
    Calls Tryd.prog 21 #[Str s] w fun e W' => e = .returned (.tuple #[Str (splitR s).1, IdV (splitR s).2.1, .bool (splitR s).2.2.1, .int .i64 ((splitR s).2.2.2 : Nat)]) ∧ Below w.heap.size w W' := by
  have hsz : (⟨s.toArray⟩ : ByteArray).size = s.length := by simp [ByteArray.size]
  have x1 := BoxI.new w zeroID_length
  have hB1 : Below w.heap.size w (w.alloc (.cells (zeroID.map B8).toArray 30)) := (Below.refl _ w).alloc (Nat.le_refl _) _
  obtain ⟨R, hR⟩ : ∃ R, R = splitR s := ⟨_, rfl⟩
  rw [← hR]
  have HR := Lib.hid hR
  clear hR
  have HT0 := Lib.hid (tildeI_end s)
  go_enter Tryd.func21, Tryd.ntmps21
  go_wp2_with (refine wpList_alloc_id rfl rfl ?_)
  generalize w.alloc (.cells (zeroID.map B8).toArray 30) = w2 at *
  go_loopw [6, 7] (fun at' i wr => ∃ (k : Nat) (z : Int), k ≤ s.length ∧ i = .int .i64 z ∧ z = (k : Int) - 1 ∧ at' = .int .i64 (tildeI s k) ∧ wr = w2) (fun _ i _ => (intOf i + 1).toNat)
  case atStart => exact ⟨s.length, _, Nat.le_refl _, rfl, rfl, by rw [HT0.out], rfl⟩
  case round =>
    clear HT0
    obtain ⟨k, z, hk, rfl, hz, rfl, rfl⟩ := hrel
    by_cases hk0 : 0 < k
    case pos =>
      obtain ⟨p, rfl⟩ : ∃ p, k = p + 1 := ⟨k - 1, by omega⟩
      obtain rfl : z = (p : Int) := by omega
      clear hz
      obtain ⟨c, hc⟩ : ∃ c, s[p]? = some c := ⟨_, List.getElem?_eq_getElem (by omega)⟩
      have ec : ∀ h, (({ data := s.toArray } : ByteArray)[p]'h) = c := fun h => byte_at4 hc h
      have HS := Lib.hid (tildeI_step hc)
      generalize tildeI s (p + 1) = at' at *
      have hp' : (p : Int) < (s.length : Int) := by omega
      clear hc
      by_cases e1 : (c.toNat : Int) = 126
      · have b1 : ((c.toNat : Int) == 126) = true := by simpa using e1
        have HE := Lib.hid (show tildeI s p = (p : Int) by rw [HS.out, if_pos (by apply UInt8.toNat_inj.1; simp; omega)])
        clear e1 HS
        go_wp2_with fail
        go_roundw
        case rel => exact ⟨p, (p : Int) - 1, by omega, by go_num, rfl, by rw [HE.out], trivial⟩
        case measure => simp [intOf]
      · have b1 : ((c.toNat : Int) == 126) = false := by simpa using e1
        have HE := Lib.hid (show tildeI s p = at' by rw [HS.out, if_neg (fun e => e1 (by rw [e]; rfl))])
        clear e1 HS
        go_wp2_with fail
        go_roundw
        case rel => exact ⟨p, (p : Int) - 1, by omega, by go_num, rfl, by rw [HE.out], trivial⟩
        case measure => simp [intOf]
    case neg =>
      obtain rfl : k = 0 := by omega
      obtain rfl : z = -1 := by omega
      clear hz hk0
      cases ht : tilde s with
      | none =>
        have ha : tildeI s 0 = -1 := by unfold tildeI; rw [List.drop_zero, ht]
        rw [ha]
        have hck := fun W => r4Check_any W s (by omega)
        clear ha
        go_wp2_with fail
        refine (hck wr).mono ?_
        rintro e w3 ⟨rfl, h3⟩
        have x3 := x1.below h3
        have hB3 := hB1.trans (h3.mono hB1.size)
        clear hck x1
        by_cases h0 : breaksB s = 0
        · rw [checkN_zero.2 h0]
          have HE := Lib.hid (show R = (s, zeroID, false, 0) by rw [HR.out, splitR, ht]; simp only; rw [if_pos h0])
          clear HR ht h0
          go_wp2_with (first
            | (refine wpList_build_id rfl rfl ?_)
            | (refine wpList_store_id rfl (.tmp 3) (.tmp 29) rfl rfl x3 zeroID_length rfl ?_; intro w5 y5 k5))
          refine bodyPost_ret (results_id4 rfl _ rfl y5) rfl ?_
          rw [HE.out]
          exact ⟨rfl, hB3.trans (k5.below (fun j _ e => by omega) hB3.size)⟩
        · have hc : checkN s = 40 := by unfold checkN; rw [if_neg h0]
          rw [hc]
          have HE := Lib.hid (show R = ([], zeroID, false, 40) by rw [HR.out, splitR, ht]; simp only; rw [if_neg h0])
          clear HR ht h0 hc
          go_wp2_with (first
            | (refine wpList_build_id rfl rfl ?_)
            | (refine wpList_store_id rfl (.tmp 3) (.tmp 27) rfl rfl x3 zeroID_length rfl ?_; intro w5 y5 k5))
          refine bodyPost_ret (results_id4 rfl _ rfl y5) rfl ?_
          rw [HE.out]
          exact ⟨rfl, hB3.trans (k5.below (fun j _ e => by omega) hB3.size)⟩
      | some j =>
        have ha : tildeI s 0 = (j : Int) := by unfold tildeI; rw [List.drop_zero, ht]; simp
        rw [ha]
        have hj := tilde_lt s j ht
        have hext := str_ext s (j + 1) s.length
        rw [List.take_length] at hext
        have hext2 := str_ext s 0 j
        rw [List.drop_zero] at hext2
        have hj' : (j : Int) + 1 ≤ (s.length : Int) := by omega
        have hj2 : (j : Int) ≤ (s.length : Int) := by omega
        have hpr := fun W => rParse_any W (s.drop (j + 1)) (by simp; omega)
        have hck := fun W => r4Check_any W (s.take j) (by simp; omega)
        have hi32 := parseR_len4 (s.drop (j + 1))
        have HD := Lib.hid (show R = if (parseR (s.drop (j + 1))).1 = 0 ∧ breaksB (s.take j) = 0 then (s.take j, (parseR (s.drop (j + 1))).2, true, 0) else ([], zeroID, false, 40) by rw [HR.out, splitR, ht])
        clear HR ht ha
        generalize parseR (s.drop (j + 1)) = pr at *
        obtain ⟨er, id⟩ := pr
        dsimp only at hpr hi32 HD
        go_wp2_with fail
        refine (hpr wr).mono ?_
        rintro e w3 ⟨rfl, h3⟩
        have x3 := x1.below h3
        have hB3 := hB1.trans (h3.mono hB1.size)
        have n3 := BoxI.new w3 zeroID_length
        clear hpr x1
        by_cases h0 : er = 0
        case neg =>
          have b0 : (er != 0) = true := by simpa using h0
          have HE := Lib.hid (show R = ([], zeroID, false, 40) by rw [HD.out, if_neg (fun h => h0 h.1)])
          clear HD h0 hck
          go_wp2_with (first
            | (refine wpList_alloc_id rfl rfl ?_)
            | (refine wpList_store_id rfl (.tmp 8) (.tmp 36) rfl rfl n3 hi32 rfl ?_; intro w4 y4 k4; have B4 : Below w3.heap.size w3 w4 := (((Below.refl _ w3).alloc (Nat.le_refl _) _).trans (k4.below (fun j _ e => by omega) (by simp))); have x4 := x3.below B4; have hB4 := hB3.trans (B4.mono hB3.size))
            | (refine wpList_build_id rfl rfl ?_)
            | (refine wpList_store_id rfl (.tmp 3) (.tmp 47) rfl rfl x4 zeroID_length rfl ?_; intro w5 y5 k5))
          refine bodyPost_ret (results_id4 rfl _ rfl y5) rfl ?_
          rw [HE.out]
          exact ⟨rfl, hB4.trans (k5.below (fun j _ e => by omega) hB4.size)⟩
        case pos =>
        subst h0
        go_wp2_with (first
          | (refine wpList_alloc_id rfl rfl ?_)
          | (refine wpList_store_id rfl (.tmp 8) (.tmp 36) rfl rfl n3 hi32 rfl ?_; intro w4 y4 k4))
        have B4 : Below w3.heap.size w3 w4 := ((Below.refl _ w3).alloc (Nat.le_refl _) _).trans (k4.below (fun j _ e => by omega) (by simp))
        have x4 := x3.below B4
        have hB4 := hB3.trans (B4.mono hB3.size)
        have hg8 : w.heap.size < w3.heap.size := x3.lt
        generalize w3.heap.size = g8 at *
        clear n3 k4 x3 B4
        refine (hck w4).mono ?_
        rintro e w5 ⟨rfl, h5⟩
        have x5 := x4.below h5
        have y5 := y4.below h5
        have hB5 := hB4.trans (h5.mono hB4.size)
        clear hck x4 y4
        by_cases h1 : breaksB (s.take j) = 0
        case neg =>
          have hc : checkN (s.take j) = 40 := by unfold checkN; rw [if_neg h1]
          rw [hc]
          have HE := Lib.hid (show R = ([], zeroID, false, 40) by rw [HD.out, if_neg (fun h => h1 h.2)])
          clear HD h1 hc
          go_wp2_with (first
            | (refine wpList_build_id rfl rfl ?_)
            | (refine wpList_store_id rfl (.tmp 3) (.tmp 47) rfl rfl x5 zeroID_length rfl ?_; intro w6 y6 k6))
          refine bodyPost_ret (results_id4 rfl _ rfl y6) rfl ?_
          rw [HE.out]
          exact ⟨rfl, hB5.trans (k6.below (fun j _ e => by omega) hB5.size)⟩
        case pos =>
          rw [checkN_zero.2 h1]
          have HE := Lib.hid (show R = (s.take j, id, true, 0) by rw [HD.out, if_pos ⟨by first | trivial | rfl, h1⟩])
          clear HD h1
          have hS : IdAt w5.drew g8 0 id := y5.at
          have x5' : BoxI w5.drew w.heap.size zeroID := x5
          go_wp2_with fail
          refine wp_held (fun W1 => IdAt W1 g8 0 id) (by kernel_rfl) ?_
          refine wpAnyH_next (i := 0) (v := Str s) rfl (by kernel_rfl) (by kernel_rfl) (by kernel_rfl) (fun _ _ _ h => h) (by kernel_rfl) (fun W1 hW1 => by go_simp) hS (fun a' ha' => ?_)
          simp only [Act.put, List.getElem_toArray, List.getElem_cons_zero, List.setIfInBounds_toArray, List.set_cons_succ, List.set_cons_zero] at ha'
          subst ha'
          refine wpAnyH_next (i := 1) (v := Value.int .i64 (j : Int)) rfl (by kernel_rfl) (by kernel_rfl) (by kernel_rfl) (fun _ _ _ h => h) (by kernel_rfl) (fun W1 hW1 => by go_simp) hS (fun a' ha' => ?_)
          simp only [Act.put, List.getElem_toArray, List.getElem_cons_succ, List.getElem_cons_zero, List.setIfInBounds_toArray, List.set_cons_succ, List.set_cons_zero] at ha'
          subst ha'
          refine wpAnyH_next (i := 2) (v := Str (s.take j)) rfl (by kernel_rfl) (by kernel_rfl) (by kernel_rfl) (fun _ _ _ h => h) (by kernel_rfl) (fun W1 hW1 => by go_simp) hS (fun a' ha' => ?_)
          simp only [Act.put, List.getElem_toArray, List.getElem_cons_succ, List.getElem_cons_zero, List.setIfInBounds_toArray, List.set_cons_succ, List.set_cons_zero] at ha'
          subst ha'
          refine wpAnyH_next (i := 3) (v := IdV id) rfl (by kernel_rfl) (by kernel_rfl) (by kernel_rfl) (fun _ _ _ h => h) (by kernel_rfl) (fun W1 hW1 => by exact exec_load_id rfl rfl hi32 hW1) hS (fun a' ha' => ?_)
          simp only [Act.put, List.getElem_toArray, List.getElem_cons_succ, List.getElem_cons_zero, List.setIfInBounds_toArray, List.set_cons_succ, List.set_cons_zero] at ha'
          subst ha'
          refine wpAnyH_next (i := 4) (v := Str (s.take j)) rfl (by kernel_rfl) (by kernel_rfl) (by kernel_rfl) (fun _ _ _ h => h) (by kernel_rfl) (fun W1 hW1 => by go_simp) hS (fun a' ha' => ?_)
          simp only [Act.put, List.getElem_toArray, List.getElem_cons_succ, List.getElem_cons_zero, List.setIfInBounds_toArray, List.set_cons_succ, List.set_cons_zero] at ha'
          subst ha'
          refine wpAnyH_one (i := 5) (by kernel_rfl) rfl rfl (fun K hK => ?_)
          refine wp_store_mid 30 (.tmp 3) (.tmp 51) rfl w.heap.size 0 (id.map B8).toArray rfl rfl (by simpa [hi32] using x5'.there) (by simpa [hi32] using sizeID hi32) (all_oneCell_toArray (bs_oneCell id)) ?_
          have y6 := (x5'.store hi32).1
          have k6 := (x5'.store hi32).2
          have hS2 : IdAt (w5.drew.setCells w.heap.size 0 (id.map B8)) g8 0 id := World.rangeAt_setCells_apart hS _ _ _ (.inl (by omega))
          have hB6 : Below w.heap.size w (w5.drew.setCells w.heap.size 0 (id.map B8)) := hB5.drew.trans (k6.below (fun j _ e => by omega) hB5.size)
          refine hK _ _ hS2 ?_
          clear hK K
          simp only [Act.put]
          refine wpAnyH_next (i := 6) (v := Value.bool true) rfl (by kernel_rfl) (by kernel_rfl) (by kernel_rfl) (fun _ _ _ h => h) (by kernel_rfl) (fun W1 hW1 => by go_simp) hS2 (fun a' ha' => ?_)
          simp only [Act.put, List.getElem_toArray, List.getElem_cons_succ, List.getElem_cons_zero, List.setIfInBounds_toArray, List.set_cons_succ, List.set_cons_zero] at ha'
          subst ha'
          refine wpAnyH_next (i := 7) (v := Value.int .i64 0) rfl (by kernel_rfl) (by kernel_rfl) (by kernel_rfl) (fun _ _ _ h => h) (by kernel_rfl) (fun W1 hW1 => by go_simp) hS2 (fun a' ha' => ?_)
          simp only [Act.put, List.getElem_toArray, List.getElem_cons_succ, List.getElem_cons_zero, List.setIfInBounds_toArray, List.set_cons_succ, List.set_cons_zero] at ha'
          subst ha'
          refine wpAnyH_fin (by kernel_rfl) ?_ _
          clear hS hS2 k6
          go_wp2_with fail
          refine bodyPost_ret (results_id4 rfl _ rfl y6) rfl ?_
          rw [HE.out]
          exact ⟨rfl, hB6⟩
end Go.Proofs.YtldgnkngjdgiaaaDoor
