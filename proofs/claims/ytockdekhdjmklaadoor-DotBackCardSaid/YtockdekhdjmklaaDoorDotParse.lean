/- Parse of dots: the program's and the reference's (tools/gendotpar.py). -/
import Derived.Test.YtockdekhdjmklaaDoorDotText
import Derived.Test.YtockdekhdjmklaaDoorDotPar
import Derived.Test.YtockdekhdjmklaaDoorDotDec
import Derived.Lib.AtoiErrMem
namespace Go.Proofs.YtockdekhdjmklaaDoor
open Go.RowKit Go.Lib

theorem byte_at5 {s : List UInt8} {i : Nat} {x : UInt8} (h : s[i]? = some x) (hi : i < ({ data := s.toArray } : ByteArray).size) : (({ data := s.toArray } : ByteArray)[i]'hi) = x := by
  obtain ⟨h1, h2⟩ := List.getElem?_eq_some_iff.1 h
  rw [← h2]
  rfl
theorem str_ext5 (s : List UInt8) (f i : Nat) : ({ data := s.toArray } : ByteArray).extract f i = { data := ((s.take i).drop f).toArray } := by
  apply ByteArray.ext
  simp [List.extract_eq_take_drop, List.drop_take]
theorem atoi_any (w : World) (s : List UInt8) (hl : s.length ≤ 1000) (hT : Tb w) :
    Calls Tryd.prog 37 #[Str s] w fun e W' => (∃ v er, e = .returned (.tuple #[.int .i64 v, er]) ∧ ((atoiAll s = .ok v ∧ er = .nilIface) ∨ ((∀ u, atoiAll s ≠ .ok u) ∧ ∃ N, er = .iface 111 (.pointer (some ⟨N, 0, none⟩))))) ∧ Below w.heap.size w W' := by
  have hsz : (⟨s.toArray⟩ : ByteArray).size = s.length := by simp [ByteArray.size]
  rcases h : atoiAll s with v | _ | _
  · refine (Tryd.strconv_Atoi_ok ⟨s.toArray⟩ (by omega) v h w).mono ?_
    rintro e W' ⟨rfl, hw⟩
    refine ⟨⟨_, _, rfl, .inl ⟨rfl, rfl⟩⟩, ?_⟩
    rcases hw with rfl | ⟨t, rfl⟩
    · exact Below.refl _ _
    · exact bytesWorld_below _ _ _
  · obtain ⟨ev, hv, hev⟩ := hT.syn
    refine (Tryd.strconv_Atoi_syntax ⟨s.toArray⟩ (by omega) h ev w hv hev).mono ?_
    rintro e W' ⟨N, rfl, _, _, hb⟩
    exact ⟨⟨_, _, rfl, .inr ⟨fun u hu => (by cases hu), N, rfl⟩⟩, hb⟩
  · obtain ⟨ev, hv, hev⟩ := hT.rng
    refine (Tryd.strconv_Atoi_range ⟨s.toArray⟩ (by omega) h ev w hv hev).mono ?_
    rintro e W' ⟨N, rfl, _, _, hb⟩
    exact ⟨⟨_, _, rfl, .inr ⟨fun u hu => (by cases hu), N, rfl⟩⟩, hb⟩
theorem cut_any (w : World) (s : List UInt8) (hl : s.length ≤ 1000) (hT : Tb w) :
    Calls Tryd.prog 36 #[Str s, Str [46]] w fun e W' => e = .returned (.tuple #[Str (cut s [46]).1, Str (cut s [46]).2.1, .bool (cut s [46]).2.2]) ∧ Below w.heap.size w W' := by
  have hsz : (⟨s.toArray⟩ : ByteArray).size = s.length := by simp [ByteArray.size]
  obtain ⟨m, hm⟩ := hT.mx
  refine (Tryd.strings_Cut ⟨s.toArray⟩ ⟨[46].toArray⟩ m w (by omega) hm).mono ?_
  rintro e W' ⟨rfl, n, rfl⟩
  exact ⟨rfl, by first | exact Below.drewN _ _ | exact (Below.refl _ w).drewN _ | exact ⟨rfl, rfl, rfl, Nat.le_refl _, fun _ _ => rfl⟩⟩

set_option maxRecDepth 20000 in
set_option maxHeartbeats 1000000 in
theorem number_any (w : World) (s : List UInt8) (hl : s.length ≤ 1000) :
    Calls Tryd.prog 38 #[Str s] w fun e W' => e = .returned (.int .i64 (numR s)) ∧ w = W' := by
  have hsz : (⟨s.toArray⟩ : ByteArray).size = s.length := by simp [ByteArray.size]
  obtain ⟨R, hR⟩ : ∃ R, R = numR s := ⟨_, rfl⟩
  rw [← hR]
  have HR := Lib.hid hR
  clear hR
  by_cases h1 : s.length < 1
  · have HE := Lib.hid (show R = -1 by rw [HR.out]; unfold numR; rw [if_pos (.inl h1)])
    clear HR
    have d1 : decide ((s.length : Int) < 1) = true := by simp; omega
    go_enter Tryd.func38, Tryd.ntmps38
    go_wp2_with fail
    go_ret
    exact ⟨by rw [HE.out]; rfl, rfl⟩
  have d1 : decide ((s.length : Int) < 1) = false := by simp; omega
  by_cases h2 : 10 < s.length
  · have HE := Lib.hid (show R = -1 by rw [HR.out]; unfold numR; rw [if_pos (.inr (.inl h2))])
    clear HR
    have d2 : decide (10 < (s.length : Int)) = true := by simp; omega
    go_enter Tryd.func38, Tryd.ntmps38
    go_wp2_with fail
    go_ret
    exact ⟨by rw [HE.out]; rfl, rfl⟩
  have d2 : decide (10 < (s.length : Int)) = false := by simp; omega
  obtain ⟨x, hx⟩ : ∃ x, s[0]? = some x := ⟨s[0], List.getElem?_eq_getElem (by omega)⟩
  have e0 : ∀ h, ((⟨s.toArray⟩ : ByteArray)[0]'h) = x := fun h => byte_at5 hx h
  have hhd : s.head? = some x := by rw [List.head?_eq_getElem?]; exact hx
  have HHD := Lib.hid hhd
  clear hhd hx
  by_cases h3 : x = 48 ∧ 1 < s.length
  · obtain ⟨rfl, h3⟩ := h3
    have HE := Lib.hid (show R = -1 by rw [HR.out]; unfold numR; rw [if_pos (.inr (.inr ⟨HHD.out, h3⟩))])
    clear HR
    have d3 : decide (1 < (s.length : Int)) = true := by simp; omega
    go_enter Tryd.func38, Tryd.ntmps38
    go_wp2_with fail
    go_ret
    exact ⟨by rw [HE.out]; rfl, rfl⟩
  have hno : ¬ (s.length < 1 ∨ 10 < s.length ∨ (s.head? = some 48 ∧ 1 < s.length)) := by
    rw [HHD.out]
    rintro (h | h | ⟨h, h'⟩)
    · exact h1 h
    · exact h2 h
    · exact h3 ⟨Option.some.inj h, h'⟩
  have HNO := Lib.hid hno
  clear hno
  by_cases hx48 : x = 48
  · subst hx48
    have h3' : ¬ 1 < s.length := fun h => h3 ⟨rfl, h⟩
    have d3 : decide (1 < (s.length : Int)) = false := by simp; omega
    go_enter Tryd.func38, Tryd.ntmps38
    go_wp2_with fail
    clear d1 d2 e0 h3
    go_loopw [3, 4] (fun n i wr => ∃ k : Nat, k ≤ s.length ∧ i = .int .i64 k ∧ n = .int .i64 (valD (s.take k) : Int) ∧ (∀ c ∈ s.take k, 48 ≤ c.toNat ∧ c.toNat ≤ 57) ∧ wr = w) (fun _ i _ => s.length - (RowKit.intOf i).toNat)
    case atStart => exact ⟨0, by omega, rfl, rfl, by simp, rfl⟩
    case round =>
      obtain ⟨k, hk, rfl, rfl, ha, rfl⟩ := hrel
      have HA := Lib.hid ha
      clear ha
      by_cases hkl : k < s.length
      case neg =>
        obtain rfl : k = s.length := by omega
        have HE := Lib.hid (show R = (valD (s.take s.length) : Int) by rw [HR.out, List.take_length]; exact numR_all HNO.out (by simpa using HA.out))
        go_wp2_with fail
        go_ret
        exact ⟨by rw [HE.out]; first | rfl | simp, rfl⟩
      case pos =>
        obtain ⟨y, hy⟩ : ∃ y, s[k]? = some y := ⟨s[k], List.getElem?_eq_getElem hkl⟩
        have ey : ∀ h, ((⟨s.toArray⟩ : ByteArray)[k]'h) = y := fun h => byte_at5 hy h
        have hvb : valD (s.take k) < 10000000000 := Nat.lt_of_lt_of_le (valD_lt _ HA.out) (Nat.le_trans (Nat.pow_le_pow_right (by omega) (show (s.take k).length ≤ 10 by simp; omega)) (by decide))
        have HV := Lib.hid (valD_take hy)
        have HY := Lib.hid hy
        clear hy
        obtain ⟨V, hV⟩ : ∃ V, V = valD (s.take k) := ⟨_, rfl⟩
        rw [← hV] at HV hvb ⊢
        have HVV := Lib.hid hV
        clear hV
        have hy256 : y.toNat < 256 := y.toNat_lt
        by_cases h48 : y.toNat < 48
        case pos =>
          have HE := Lib.hid (show R = -1 by rw [HR.out]; exact numR_stop HY.out (.inl h48))
          have dy : decide ((y.toNat : Int) < 48) = true := by simp; omega
          go_wp2_with fail
          go_ret
          exact ⟨by rw [HE.out]; rfl, rfl⟩
        have dy : decide ((y.toNat : Int) < 48) = false := by simp; omega
        by_cases h57 : 57 < y.toNat
        case pos =>
          have HE := Lib.hid (show R = -1 by rw [HR.out]; exact numR_stop HY.out (.inr h57))
          have dz : decide (57 < (y.toNat : Int)) = true := by simp; omega
          go_wp2_with fail
          go_ret
          exact ⟨by rw [HE.out]; rfl, rfl⟩
        have dz : decide (57 < (y.toNat : Int)) = false := by simp; omega
        go_wp2_with fail
        go_roundw
        case rel =>
          refine ⟨k + 1, by omega, by first | go_num | rfl, ?_, ?_, by first | rfl | trivial⟩
          · rw [HV.out]
            first | (congr 1; omega)
          · intro c hc
            rw [List.take_add_one, HY.out] at hc
            rcases List.mem_append.1 hc with hc | hc
            · exact HA.out c hc
            · obtain rfl : c = y := by simpa using hc
              omega
        case measure => first | (simp [RowKit.intOf]; omega)
  · have d3 : ((x.toNat : Int) == 48) = false := by simp; intro h; exact hx48 (UInt8.toNat_inj.1 (by simpa using (by omega : x.toNat = 48)))
    have hxn : ¬ (x.toNat : Int) = 48 := by simpa using d3
    go_enter Tryd.func38, Tryd.ntmps38
    go_wp2_with fail
    clear d1 d2 e0 h3
    go_loopw [3, 4] (fun n i wr => ∃ k : Nat, k ≤ s.length ∧ i = .int .i64 k ∧ n = .int .i64 (valD (s.take k) : Int) ∧ (∀ c ∈ s.take k, 48 ≤ c.toNat ∧ c.toNat ≤ 57) ∧ wr = w) (fun _ i _ => s.length - (RowKit.intOf i).toNat)
    case atStart => exact ⟨0, by omega, rfl, rfl, by simp, rfl⟩
    case round =>
      obtain ⟨k, hk, rfl, rfl, ha, rfl⟩ := hrel
      have HA := Lib.hid ha
      clear ha
      by_cases hkl : k < s.length
      case neg =>
        obtain rfl : k = s.length := by omega
        have HE := Lib.hid (show R = (valD (s.take s.length) : Int) by rw [HR.out, List.take_length]; exact numR_all HNO.out (by simpa using HA.out))
        go_wp2_with fail
        go_ret
        exact ⟨by rw [HE.out]; first | rfl | simp, rfl⟩
      case pos =>
        obtain ⟨y, hy⟩ : ∃ y, s[k]? = some y := ⟨s[k], List.getElem?_eq_getElem hkl⟩
        have ey : ∀ h, ((⟨s.toArray⟩ : ByteArray)[k]'h) = y := fun h => byte_at5 hy h
        have hvb : valD (s.take k) < 10000000000 := Nat.lt_of_lt_of_le (valD_lt _ HA.out) (Nat.le_trans (Nat.pow_le_pow_right (by omega) (show (s.take k).length ≤ 10 by simp; omega)) (by decide))
        have HV := Lib.hid (valD_take hy)
        have HY := Lib.hid hy
        clear hy
        obtain ⟨V, hV⟩ : ∃ V, V = valD (s.take k) := ⟨_, rfl⟩
        rw [← hV] at HV hvb ⊢
        have HVV := Lib.hid hV
        clear hV
        have hy256 : y.toNat < 256 := y.toNat_lt
        by_cases h48 : y.toNat < 48
        case pos =>
          have HE := Lib.hid (show R = -1 by rw [HR.out]; exact numR_stop HY.out (.inl h48))
          have dy : decide ((y.toNat : Int) < 48) = true := by simp; omega
          go_wp2_with fail
          go_ret
          exact ⟨by rw [HE.out]; rfl, rfl⟩
        have dy : decide ((y.toNat : Int) < 48) = false := by simp; omega
        by_cases h57 : 57 < y.toNat
        case pos =>
          have HE := Lib.hid (show R = -1 by rw [HR.out]; exact numR_stop HY.out (.inr h57))
          have dz : decide (57 < (y.toNat : Int)) = true := by simp; omega
          go_wp2_with fail
          go_ret
          exact ⟨by rw [HE.out]; rfl, rfl⟩
        have dz : decide (57 < (y.toNat : Int)) = false := by simp; omega
        go_wp2_with fail
        go_roundw
        case rel =>
          refine ⟨k + 1, by omega, by first | go_num | rfl, ?_, ?_, by first | rfl | trivial⟩
          · rw [HV.out]
            first | (congr 1; omega)
          · intro c hc
            rw [List.take_add_one, HY.out] at hc
            rcases List.mem_append.1 hc with hc | hc
            · exact HA.out c hc
            · obtain rfl : c = y := by simpa using hc
              omega
        case measure => first | (simp [RowKit.intOf]; omega)

set_option maxHeartbeats 1000000 in
theorem pDParse_any (w : World) (s : List UInt8) (hl : s.length ≤ 1000) (hT : Tb w) :
    Calls Tryd.prog 14 #[Str s] w fun e W' => e = .returned (.tuple #[DotV (parD s).2.1 (parD s).2.2, .int .i64 (parD s).1]) ∧ Below w.heap.size w W' := by
  have hB0 : Below w.heap.size w (w.alloc (.cells #[.int .i64 0, .int .i64 0] 23)) := (Below.refl _ w).alloc (Nat.le_refl _) _
  have c0 : (w.alloc (.cells #[.int .i64 0, .int .i64 0] 23)).cell? ⟨w.heap.size, 0, none⟩ = some (.int .i64 0) := by go_simp
  have c1 : (w.alloc (.cells #[.int .i64 0, .int .i64 0] 23)).cell? ⟨w.heap.size, 1, none⟩ = some (.int .i64 0) := by go_simp
  have f0 : (w.alloc (.cells #[.int .i64 0, .int .i64 0] 23)).frozen? ⟨w.heap.size, 0, none⟩ = false := by go_simp
  have f1 : (w.alloc (.cells #[.int .i64 0, .int .i64 0] 23)).frozen? ⟨w.heap.size, 1, none⟩ = false := by go_simp
  have hlt : w.heap.size < (w.alloc (.cells #[.int .i64 0, .int .i64 0] 23)).heap.size := by rw [World.size_alloc]; omega
  have hT0 := hT.below hB0
  have hcl : (cut s [46]).1.length ≤ 1000 ∧ (cut s [46]).2.1.length ≤ 1000 := by
    rw [cut_at46]
    cases at46 s with
    | none => simp; omega
    | some j => simp; omega
  have HO := Lib.hid (fun (a b : Int) (h1 : atoiAll (cut s [46]).1 = .ok a) (ht : textD a b = s) => parD_ok (b := b) h1 ht)
  have HN := Lib.hid (fun (h : parD s ≠ (50, (0, 0))) => parD_no h)
  obtain ⟨R, hR⟩ : ∃ R, R = parD s := ⟨_, rfl⟩
  rw [← hR] at HO HN ⊢
  clear hR
  obtain ⟨F, hF⟩ : ∃ F, F = (cut s [46]).1 := ⟨_, rfl⟩
  obtain ⟨G, hG⟩ : ∃ G, G = (cut s [46]).2.1 := ⟨_, rfl⟩
  rw [← hF, ← hG] at hcl
  rw [← hF] at HO
  rw [← hF, ← hG] at HN
  have cc := fun W h => cut_any W s hl h
  rw [← hF, ← hG] at cc
  have CC := Lib.hid cc
  clear cc hF hG hT
  go_enter Tryd.func14, Tryd.ntmps14
  go_wp2_with fail
  refine (CC.out _ hT0).mono ?_
  rintro e w1 ⟨rfl, h1⟩
  have hB1 := hB0.trans (h1.mono hB0.size)
  have c10 := cell_on h1 c0
  have c11 := cell_on h1 c1
  have f10 := frozen_on h1 hlt f0
  have f11 := frozen_on h1 hlt f1
  have hT1 := hT0.below h1
  have hlt1 := Nat.lt_of_lt_of_le hlt h1.size
  clear h1 hB0 c0 c1 f0 f1 hT0 hlt CC
  go_wp2_with fail
  refine (atoi_any _ F hcl.1 hT1).mono ?_
  rintro e w2 ⟨⟨v, er, rfl, hor⟩, h2⟩
  have hB2 := hB1.trans (h2.mono hB1.size)
  have c20 := cell_on h2 c10
  have c21 := cell_on h2 c11
  have f20 := frozen_on h2 hlt1 f10
  have f21 := frozen_on h2 hlt1 f11
  have hT2 := hT1.below h2
  have hlt2 := Nat.lt_of_lt_of_le hlt1 h2.size
  clear h2 hB1 c10 c11 f10 f11 hT1 hlt1
  have HOR := Lib.hid hor
  clear hor
  go_wp2_with fail
  refine (atoi_any _ G hcl.2 hT2).mono ?_
  rintro e w3 ⟨⟨u, eu, rfl, hou⟩, h3⟩
  have hB3 := hB2.trans (h3.mono hB2.size)
  have c30 := cell_on h3 c20
  have c31 := cell_on h3 c21
  have f30 := frozen_on h3 hlt2 f20
  have f31 := frozen_on h3 hlt2 f21
  have hT3 := hT2.below h3
  have hlt3 := Nat.lt_of_lt_of_le hlt2 h3.size
  clear h3 hB2 c20 c21 f20 f21 hT2 hlt2
  have HOU := Lib.hid hou
  clear hou
  rcases HOR.out with ⟨hov, rfl⟩ | ⟨hov, N, rfl⟩
  case inr =>
    have HE := Lib.hid (show R = (50, (0, 0)) from Classical.byContradiction fun h => by obtain ⟨a, b, h1, _⟩ := HN.out h; exact hov _ h1)
    rcases HOU.out with ⟨_, rfl⟩ | ⟨_, N', rfl⟩
    case inl =>
      clear HOR HOU HO HN
      go_wp2_with fail
      refine bodyPost_ret (results_dot2 rfl _ 0 0 rfl (by first | (go_simp; done)) (by first | (go_simp; done))) rfl ?_
      rw [HE.out]
      exact ⟨rfl, by first | (refine Below.alloc ?_ (by have := hB3.size; simp [World.setCell]; omega) _; exact (hB3.setCell (Nat.le_refl _) _).setCell (Nat.le_refl _) _)⟩
    case inr =>
      clear HOR HOU HO HN
      go_wp2_with fail
      refine bodyPost_ret (results_dot2 rfl _ 0 0 rfl (by first | (go_simp; done)) (by first | (go_simp; done))) rfl ?_
      rw [HE.out]
      exact ⟨rfl, by first | (refine Below.alloc ?_ (by have := hB3.size; simp [World.setCell]; omega) _; exact (hB3.setCell (Nat.le_refl _) _).setCell (Nat.le_refl _) _)⟩
  case inl =>
    rcases HOU.out with ⟨hou, rfl⟩ | ⟨hou, N', rfl⟩
    case inr =>
      have HE := Lib.hid (show R = (50, (0, 0)) from Classical.byContradiction fun h => by obtain ⟨a, b, _, h1, _⟩ := HN.out h; exact hou _ h1)
      clear HOR HOU HO HN
      go_wp2_with fail
      refine bodyPost_ret (results_dot2 rfl _ 0 0 rfl (by first | (go_simp; done)) (by first | (go_simp; done))) rfl ?_
      rw [HE.out]
      exact ⟨rfl, by first | (refine Below.alloc ?_ (by have := hB3.size; simp [World.setCell]; omega) _; exact (hB3.setCell (Nat.le_refl _) _).setCell (Nat.le_refl _) _)⟩
    case inl =>
      have hT4 : Tb (w3.alloc (.cells #[.int .i64 v, .int .i64 u] 23)) := hT3.below ((Below.refl _ w3).alloc (Nat.le_refl _) _)
      have HT4 := Lib.hid hT4
      clear hT4
      by_cases hts : textD v u = s
      case pos =>
        have HE := Lib.hid (show R = (0, (v, u)) from HO.out v u hov hts)
        clear HOR HOU HO HN
        go_wp2_with fail
        refine (pDText_any _ v u HT4.out).mono ?_
        rintro e w4 ⟨rfl, h4⟩
        rw [hts]
        have c40 : w4.cell? ⟨w.heap.size, 0, none⟩ = some (.int .i64 0) := cell_on h4 (by go_simp)
        have c41 : w4.cell? ⟨w.heap.size, 1, none⟩ = some (.int .i64 0) := cell_on h4 (by go_simp)
        have f40 : w4.frozen? ⟨w.heap.size, 0, none⟩ = false := frozen_on h4 (by simp [World.size_alloc]; omega) (by go_simp)
        have f41 : w4.frozen? ⟨w.heap.size, 1, none⟩ = false := frozen_on h4 (by simp [World.size_alloc]; omega) (by go_simp)
        have d40 : w4.cell? ⟨w3.heap.size, 0, none⟩ = some (.int .i64 v) := cell_on h4 (by go_simp)
        have d41 : w4.cell? ⟨w3.heap.size, 1, none⟩ = some (.int .i64 u) := cell_on h4 (by go_simp)
        have hB4 : Below w.heap.size w w4 := (hB3.alloc hB3.size _).trans (h4.mono (by simp [World.size_alloc]; omega))
        clear h4 HT4
        go_wp2_with fail
        refine bodyPost_ret (results_dot2 rfl _ v u rfl (by first | (go_simp; done)) (by first | (go_simp; done))) rfl ?_
        rw [HE.out]
        exact ⟨rfl, by first | exact (hB4.setCell (Nat.le_refl _) _).setCell (Nat.le_refl _) _⟩
      case neg =>
        have HE := Lib.hid (show R = (50, (0, 0)) from Classical.byContradiction fun h => by
          obtain ⟨a, b, h1, h2, h3⟩ := HN.out h
          rw [hov] at h1
          rw [hou] at h2
          injection h1 with h1
          injection h2 with h2
          subst h1
          subst h2
          exact hts h3)
        clear HOR HOU HO HN
        go_wp2_with fail
        refine (pDText_any _ v u HT4.out).mono ?_
        rintro e w4 ⟨rfl, h4⟩
        have hne : (textD v u == s) = false := by simpa using hts
        have c40 : w4.cell? ⟨w.heap.size, 0, none⟩ = some (.int .i64 0) := cell_on h4 (by go_simp)
        have c41 : w4.cell? ⟨w.heap.size, 1, none⟩ = some (.int .i64 0) := cell_on h4 (by go_simp)
        have f40 : w4.frozen? ⟨w.heap.size, 0, none⟩ = false := frozen_on h4 (by simp [World.size_alloc]; omega) (by go_simp)
        have f41 : w4.frozen? ⟨w.heap.size, 1, none⟩ = false := frozen_on h4 (by simp [World.size_alloc]; omega) (by go_simp)
        have hB4 : Below w.heap.size w w4 := (hB3.alloc hB3.size _).trans (h4.mono (by simp [World.size_alloc]; omega))
        clear h4 HT4
        go_wp2_with fail
        refine bodyPost_ret (results_dot2 rfl _ 0 0 rfl (by first | (go_simp; done)) (by first | (go_simp; done))) rfl ?_
        rw [HE.out]
        exact ⟨rfl, by first | exact (hB4.setCell (Nat.le_refl _) _).setCell (Nat.le_refl _) _⟩

set_option maxRecDepth 20000 in
set_option maxHeartbeats 1000000 in
theorem r5Parse_any (w : World) (s : List UInt8) (hl : s.length ≤ 1000) :
    Calls Tryd.prog 15 #[Str s] w fun e W' => e = .returned (.tuple #[DotV (parD s).2.1 (parD s).2.2, .int .i64 (parD s).1]) ∧ Below w.heap.size w W' := by
  have hsz : (⟨s.toArray⟩ : ByteArray).size = s.length := by simp [ByteArray.size]
  have hB0 : Below w.heap.size w (w.alloc (.cells #[.int .i64 0, .int .i64 0] 23)) := (Below.refl _ w).alloc (Nat.le_refl _) _
  have c0 : (w.alloc (.cells #[.int .i64 0, .int .i64 0] 23)).cell? ⟨w.heap.size, 0, none⟩ = some (.int .i64 0) := by go_simp
  have c1 : (w.alloc (.cells #[.int .i64 0, .int .i64 0] 23)).cell? ⟨w.heap.size, 1, none⟩ = some (.int .i64 0) := by go_simp
  have f0 : (w.alloc (.cells #[.int .i64 0, .int .i64 0] 23)).frozen? ⟨w.heap.size, 0, none⟩ = false := by go_simp
  have f1 : (w.alloc (.cells #[.int .i64 0, .int .i64 0] 23)).frozen? ⟨w.heap.size, 1, none⟩ = false := by go_simp
  have hlt : w.heap.size < (w.alloc (.cells #[.int .i64 0, .int .i64 0] 23)).heap.size := by rw [World.size_alloc]; omega
  obtain ⟨R, hR⟩ : ∃ R, R = parD s := ⟨_, rfl⟩
  rw [← hR]
  have HR := Lib.hid hR
  clear hR
  go_enter Tryd.func15, Tryd.ntmps15
  go_wp2_with fail
  generalize (w.alloc (.cells #[.int .i64 0, .int .i64 0] 23)) = w0 at *
  go_loopw [4] (fun i wr => ∃ k : Nat, k ≤ s.length ∧ i = .int .i64 k ∧ ¬ 46 ∈ s.take k ∧ wr = w0) (fun i _ => s.length - (RowKit.intOf i).toNat)
  case atStart => exact ⟨0, by omega, rfl, by simp, rfl⟩
  case round =>
    obtain ⟨k, hk, rfl, hn, hw0⟩ := hrel
    subst hw0
    have HN := Lib.hid hn
    clear hn
    by_cases hkl : k < s.length
    case neg =>
      obtain rfl : k = s.length := by omega
      have HE := Lib.hid (HR.out.trans (parD_none (at46_none s (by have := HN.out; rw [List.take_length] at this; exact this))))
      go_wp2_with fail
      refine bodyPost_ret (results_dot2 rfl _ 0 0 rfl (by first | (go_simp; done)) (by first | (go_simp; done))) rfl ?_
      rw [HE.out]
      exact ⟨rfl, (hB0.setCell (Nat.le_refl _) _).setCell (Nat.le_refl _) _⟩
    case pos =>
      obtain ⟨y, hy⟩ : ∃ y, s[k]? = some y := ⟨s[k], List.getElem?_eq_getElem hkl⟩
      have ey : ∀ h, ((⟨s.toArray⟩ : ByteArray)[k]'h) = y := fun h => byte_at5 hy h
      have HY := Lib.hid hy
      clear hy
      by_cases h46 : y = 46
      case neg =>
        have hyn : ¬ (y.toNat : Int) = 46 := fun h => h46 (UInt8.toNat_inj.1 (by simpa using (by omega : y.toNat = 46)))
        have dy : ((y.toNat : Int) == 46) = false := by simpa using hyn
        have dz : ((y.toNat : Int) != 46) = true := by simpa using hyn
        go_wp2_with fail
        go_roundw
        case rel =>
          refine ⟨k + 1, by omega, by first | go_num | rfl, ?_, by first | rfl | trivial⟩
          rw [List.take_add_one, HY.out]
          intro hm
          rcases List.mem_append.1 hm with hm | hm
          · exact HN.out hm
          · exact h46 (by first | (simpa using hm) | (simp at hm; exact hm.symm))
        case measure => first | (simp [RowKit.intOf]; omega)
      case pos =>
        subst h46
        have hj := at46_here HN.out HY.out
        have hE := HR.out.trans (parD_some hj)
        have bA := numR_bound (s.take k)
        have bB := numR_bound (s.drop (k + 1))
        have cA := fun W => number_any W (s.take k) (by simp; omega)
        have cB := fun W => number_any W (s.drop (k + 1)) (by simp; omega)
        obtain ⟨A, hA⟩ : ∃ A, A = numR (s.take k) := ⟨_, rfl⟩
        obtain ⟨B, hB⟩ : ∃ B, B = numR (s.drop (k + 1)) := ⟨_, rfl⟩
        rw [← hA, ← hB] at hE
        rw [← hA] at bA cA
        rw [← hB] at bB cB
        have HE := Lib.hid hE
        have CA := Lib.hid cA
        have CB := Lib.hid cB
        clear hE cA cB hA hB hj HR HN HY
        go_wp2_with fail
        refine wp_held (fun W1 => Below wr.heap.size wr W1) (by kernel_rfl) ?_
        have hS : Below wr.heap.size wr wr.drew := (Below.refl _ wr).drew
        refine wpAnyH_next (i := 0) (v := Str s) rfl (by kernel_rfl) (by kernel_rfl) (by kernel_rfl) (fun _ _ _ h => h) (by kernel_rfl) (fun W1 hW1 => by first | (go_simp; done) | (go_simp; go_num; done) | (go_simp; exact IntWalk.i64_in _ (by omega)) | (go_simp; rw [if_pos ⟨by omega, by omega⟩, str_ext5]; simp; done) | (go_simp; rw [if_pos (by omega), str_ext5]; simp; done) | (go_simp; rw [str_ext5]; simp; done) | (go_simp; rw [str_ext5, List.take_of_length_le (by omega)]; done)) hS (fun a' ha' => ?_)
        simp only [Act.put, List.getElem_toArray, List.getElem_cons_zero, List.setIfInBounds_toArray, List.set_cons_succ, List.set_cons_zero] at ha'
        subst ha'
        refine wpAnyH_next (i := 1) (v := .int .i64 (k : Int)) rfl (by kernel_rfl) (by kernel_rfl) (by kernel_rfl) (fun _ _ _ h => h) (by kernel_rfl) (fun W1 hW1 => by first | (go_simp; done) | (go_simp; go_num; done) | (go_simp; exact IntWalk.i64_in _ (by omega)) | (go_simp; rw [if_pos ⟨by omega, by omega⟩, str_ext5]; simp; done) | (go_simp; rw [if_pos (by omega), str_ext5]; simp; done) | (go_simp; rw [str_ext5]; simp; done) | (go_simp; rw [str_ext5, List.take_of_length_le (by omega)]; done)) hS (fun a' ha' => ?_)
        simp only [Act.put, List.getElem_toArray, List.getElem_cons_succ, List.getElem_cons_zero, List.setIfInBounds_toArray, List.set_cons_succ, List.set_cons_zero] at ha'
        subst ha'
        refine wpAnyH_next (i := 2) (v := Str (s.take k)) rfl (by kernel_rfl) (by kernel_rfl) (by kernel_rfl) (fun _ _ _ h => h) (by kernel_rfl) (fun W1 hW1 => by first | (go_simp; done) | (go_simp; go_num; done) | (go_simp; exact IntWalk.i64_in _ (by omega)) | (go_simp; rw [if_pos ⟨by omega, by omega⟩, str_ext5]; simp; done) | (go_simp; rw [if_pos (by omega), str_ext5]; simp; done) | (go_simp; rw [str_ext5]; simp; done) | (go_simp; rw [str_ext5, List.take_of_length_le (by omega)]; done)) hS (fun a' ha' => ?_)
        simp only [Act.put, List.getElem_toArray, List.getElem_cons_succ, List.getElem_cons_zero, List.setIfInBounds_toArray, List.set_cons_succ, List.set_cons_zero] at ha'
        subst ha'
        refine wpAnyH_next (i := 4) (v := Str s) rfl (by kernel_rfl) (by kernel_rfl) (by kernel_rfl) (fun _ _ _ h => h) (by kernel_rfl) (fun W1 hW1 => by first | (go_simp; done) | (go_simp; go_num; done) | (go_simp; exact IntWalk.i64_in _ (by omega)) | (go_simp; rw [if_pos ⟨by omega, by omega⟩, str_ext5]; simp; done) | (go_simp; rw [if_pos (by omega), str_ext5]; simp; done) | (go_simp; rw [str_ext5]; simp; done) | (go_simp; rw [str_ext5, List.take_of_length_le (by omega)]; done)) hS (fun a' ha' => ?_)
        simp only [Act.put, List.getElem_toArray, List.getElem_cons_succ, List.getElem_cons_zero, List.setIfInBounds_toArray, List.set_cons_succ, List.set_cons_zero] at ha'
        subst ha'
        refine wpAnyH_next (i := 5) (v := .int .i64 (k : Int)) rfl (by kernel_rfl) (by kernel_rfl) (by kernel_rfl) (fun _ _ _ h => h) (by kernel_rfl) (fun W1 hW1 => by first | (go_simp; done) | (go_simp; go_num; done) | (go_simp; exact IntWalk.i64_in _ (by omega)) | (go_simp; rw [if_pos ⟨by omega, by omega⟩, str_ext5]; simp; done) | (go_simp; rw [if_pos (by omega), str_ext5]; simp; done) | (go_simp; rw [str_ext5]; simp; done) | (go_simp; rw [str_ext5, List.take_of_length_le (by omega)]; done)) hS (fun a' ha' => ?_)
        simp only [Act.put, List.getElem_toArray, List.getElem_cons_succ, List.getElem_cons_zero, List.setIfInBounds_toArray, List.set_cons_succ, List.set_cons_zero] at ha'
        subst ha'
        refine wpAnyH_next (i := 6) (v := .int .i64 ((k : Int) + 1)) rfl (by kernel_rfl) (by kernel_rfl) (by kernel_rfl) (fun _ _ _ h => h) (by kernel_rfl) (fun W1 hW1 => by first | (go_simp; done) | (go_simp; go_num; done) | (go_simp; exact IntWalk.i64_in _ (by omega)) | (go_simp; rw [if_pos ⟨by omega, by omega⟩, str_ext5]; simp; done) | (go_simp; rw [if_pos (by omega), str_ext5]; simp; done) | (go_simp; rw [str_ext5]; simp; done) | (go_simp; rw [str_ext5, List.take_of_length_le (by omega)]; done)) hS (fun a' ha' => ?_)
        simp only [Act.put, List.getElem_toArray, List.getElem_cons_succ, List.getElem_cons_zero, List.setIfInBounds_toArray, List.set_cons_succ, List.set_cons_zero] at ha'
        subst ha'
        refine wpAnyH_next (i := 7) (v := Str (s.drop (k + 1))) rfl (by kernel_rfl) (by kernel_rfl) (by kernel_rfl) (fun _ _ _ h => h) (by kernel_rfl) (fun W1 hW1 => by first | (go_simp; done) | (go_simp; go_num; done) | (go_simp; exact IntWalk.i64_in _ (by omega)) | (go_simp; rw [if_pos ⟨by omega, by omega⟩, str_ext5]; simp; done) | (go_simp; rw [if_pos (by omega), str_ext5]; simp; done) | (go_simp; rw [str_ext5]; simp; done) | (go_simp; rw [str_ext5, List.take_of_length_le (by omega)]; done)) hS (fun a' ha' => ?_)
        simp only [Act.put, List.getElem_toArray, List.getElem_cons_succ, List.getElem_cons_zero, List.setIfInBounds_toArray, List.set_cons_succ, List.set_cons_zero] at ha'
        subst ha'
        have hSa : Below wr.heap.size wr (wr.alloc (.cells #[.int .i64 0, .int .i64 0] 23)).drew := ((Below.refl _ wr).alloc (Nat.le_refl _) _).drew
        have hSb : Below wr.heap.size wr (wr.alloc (.cells #[.int .i64 A, .int .i64 B] 23)).drew := ((Below.refl _ wr).alloc (Nat.le_refl _) _).drew
        have hBX := hB0.trans (hSb.mono hB0.size)
        refine wpAnyH_two (i := 3) (j := 10) (by kernel_rfl) rfl rfl rfl rfl (fun K hK => ?_) (fun K hK => ?_)
        · unfold Oper.wp
          go_simp
          refine (CA.out _).mono ?_
          rintro e w5 ⟨rfl, rfl⟩
          refine hK _ _ hS ?_
          clear hK K
          refine wpAnyH_two (i := 8) (j := 10) (by kernel_rfl) rfl rfl rfl rfl (fun K hK => ?_) (fun K hK => ?_)
          · unfold Oper.wp
            go_simp
            refine (CB.out _).mono ?_
            rintro e w5 ⟨rfl, rfl⟩
            refine hK _ _ hS ?_
            clear hK K
            refine wpAnyH_next (i := 9) (v := DotV A B) rfl (by kernel_rfl) (by kernel_rfl) (by kernel_rfl) (fun _ _ _ h => h) (by kernel_rfl) (fun W1 hW1 => by first | (go_simp; done) | (go_simp; go_num; done) | (go_simp; exact IntWalk.i64_in _ (by omega)) | (go_simp; rw [if_pos ⟨by omega, by omega⟩, str_ext5]; simp; done) | (go_simp; rw [if_pos (by omega), str_ext5]; simp; done) | (go_simp; rw [str_ext5]; simp; done) | (go_simp; rw [str_ext5, List.take_of_length_le (by omega)]; done)) hS (fun a' ha' => ?_)
            simp only [Act.put, List.getElem_toArray, List.getElem_cons_succ, List.getElem_cons_zero, List.setIfInBounds_toArray, List.set_cons_succ, List.set_cons_zero] at ha'
            subst ha'
            refine wpAnyH_one (i := 10) (by kernel_rfl) rfl rfl (fun K hK => ?_)
            unfold Oper.wp
            go_simp
            refine hK _ _ hSa ?_
            clear hK K
            refine wpAnyH_one (i := 11) (by kernel_rfl) rfl rfl (fun K hK => ?_)
            unfold Oper.wp
            go_simp
            refine hK _ _ hSb ?_
            clear hK K
            refine wpAnyH_fin (by kernel_rfl) ?_ _
            clear hS hSa
            go_wp2_with fail
            refine (r5Check_any _ A B).mono ?_
            rintro e w6 ⟨rfl, h6⟩
            have hB6 : Below w.heap.size w w6 := hBX.trans (h6.mono hBX.size)
            have c60 : w6.cell? ⟨w.heap.size, 0, none⟩ = some (.int .i64 0) := cell_on h6 (by go_simp)
            have f60 : w6.frozen? ⟨w.heap.size, 0, none⟩ = false := frozen_on h6 (by first | (simp [World.size_alloc]; omega) | (show w.heap.size < (wr.heap.push _).size; simp; omega)) (by go_simp)
            have d60 : w6.cell? ⟨wr.heap.size, 0, none⟩ = some (.int .i64 A) := cell_on h6 (by go_simp)
            have c61 : w6.cell? ⟨w.heap.size, 1, none⟩ = some (.int .i64 0) := cell_on h6 (by go_simp)
            have f61 : w6.frozen? ⟨w.heap.size, 1, none⟩ = false := frozen_on h6 (by first | (simp [World.size_alloc]; omega) | (show w.heap.size < (wr.heap.push _).size; simp; omega)) (by go_simp)
            have d61 : w6.cell? ⟨wr.heap.size, 1, none⟩ = some (.int .i64 B) := cell_on h6 (by go_simp)
            clear h6 hBX hSb
            by_cases hok : DotOk A B
            · rw [checkD_ok hok]
              go_wp2_with fail
              refine bodyPost_ret (results_dot2 rfl _ A B rfl (by first | (go_simp; done)) (by first | (go_simp; done))) rfl ?_
              rw [HE.out, if_pos hok]
              exact ⟨rfl, by first | exact (hB6.setCell (Nat.le_refl _) _).setCell (Nat.le_refl _) _⟩
            · rw [checkD_no hok]
              go_wp2_with fail
              refine bodyPost_ret (results_dot2 rfl _ 0 0 rfl (by first | (go_simp; done)) (by first | (go_simp; done))) rfl ?_
              rw [HE.out, if_neg hok]
              exact ⟨rfl, by first | exact (hB6.setCell (Nat.le_refl _) _).setCell (Nat.le_refl _) _⟩
          · unfold Oper.wp
            go_simp
            refine hK _ _ hSa ?_
            clear hK K
            refine wpAnyH_one (i := 8) (by kernel_rfl) rfl rfl (fun K hK => ?_)
            unfold Oper.wp
            go_simp
            refine (CB.out _).mono ?_
            rintro e w5 ⟨rfl, rfl⟩
            refine hK _ _ hSa ?_
            clear hK K
            refine wpAnyH_next (i := 9) (v := DotV A B) rfl (by kernel_rfl) (by kernel_rfl) (by kernel_rfl) (fun _ _ _ h => h) (by kernel_rfl) (fun W1 hW1 => by first | (go_simp; done) | (go_simp; go_num; done) | (go_simp; exact IntWalk.i64_in _ (by omega)) | (go_simp; rw [if_pos ⟨by omega, by omega⟩, str_ext5]; simp; done) | (go_simp; rw [if_pos (by omega), str_ext5]; simp; done) | (go_simp; rw [str_ext5]; simp; done) | (go_simp; rw [str_ext5, List.take_of_length_le (by omega)]; done)) hSa (fun a' ha' => ?_)
            simp only [Act.put, List.getElem_toArray, List.getElem_cons_succ, List.getElem_cons_zero, List.setIfInBounds_toArray, List.set_cons_succ, List.set_cons_zero] at ha'
            subst ha'
            refine wpAnyH_one (i := 11) (by kernel_rfl) rfl rfl (fun K hK => ?_)
            unfold Oper.wp
            go_simp
            refine hK _ _ hSb ?_
            clear hK K
            refine wpAnyH_fin (by kernel_rfl) ?_ _
            clear hS hSa
            go_wp2_with fail
            refine (r5Check_any _ A B).mono ?_
            rintro e w6 ⟨rfl, h6⟩
            have hB6 : Below w.heap.size w w6 := hBX.trans (h6.mono hBX.size)
            have c60 : w6.cell? ⟨w.heap.size, 0, none⟩ = some (.int .i64 0) := cell_on h6 (by go_simp)
            have f60 : w6.frozen? ⟨w.heap.size, 0, none⟩ = false := frozen_on h6 (by first | (simp [World.size_alloc]; omega) | (show w.heap.size < (wr.heap.push _).size; simp; omega)) (by go_simp)
            have d60 : w6.cell? ⟨wr.heap.size, 0, none⟩ = some (.int .i64 A) := cell_on h6 (by go_simp)
            have c61 : w6.cell? ⟨w.heap.size, 1, none⟩ = some (.int .i64 0) := cell_on h6 (by go_simp)
            have f61 : w6.frozen? ⟨w.heap.size, 1, none⟩ = false := frozen_on h6 (by first | (simp [World.size_alloc]; omega) | (show w.heap.size < (wr.heap.push _).size; simp; omega)) (by go_simp)
            have d61 : w6.cell? ⟨wr.heap.size, 1, none⟩ = some (.int .i64 B) := cell_on h6 (by go_simp)
            clear h6 hBX hSb
            by_cases hok : DotOk A B
            · rw [checkD_ok hok]
              go_wp2_with fail
              refine bodyPost_ret (results_dot2 rfl _ A B rfl (by first | (go_simp; done)) (by first | (go_simp; done))) rfl ?_
              rw [HE.out, if_pos hok]
              exact ⟨rfl, by first | exact (hB6.setCell (Nat.le_refl _) _).setCell (Nat.le_refl _) _⟩
            · rw [checkD_no hok]
              go_wp2_with fail
              refine bodyPost_ret (results_dot2 rfl _ 0 0 rfl (by first | (go_simp; done)) (by first | (go_simp; done))) rfl ?_
              rw [HE.out, if_neg hok]
              exact ⟨rfl, by first | exact (hB6.setCell (Nat.le_refl _) _).setCell (Nat.le_refl _) _⟩
        · unfold Oper.wp
          go_simp
          refine hK _ _ hSa ?_
          clear hK K
          refine wpAnyH_one (i := 3) (by kernel_rfl) rfl rfl (fun K hK => ?_)
          unfold Oper.wp
          go_simp
          refine (CA.out _).mono ?_
          rintro e w5 ⟨rfl, rfl⟩
          refine hK _ _ hSa ?_
          clear hK K
          refine wpAnyH_one (i := 8) (by kernel_rfl) rfl rfl (fun K hK => ?_)
          unfold Oper.wp
          go_simp
          refine (CB.out _).mono ?_
          rintro e w5 ⟨rfl, rfl⟩
          refine hK _ _ hSa ?_
          clear hK K
          refine wpAnyH_next (i := 9) (v := DotV A B) rfl (by kernel_rfl) (by kernel_rfl) (by kernel_rfl) (fun _ _ _ h => h) (by kernel_rfl) (fun W1 hW1 => by first | (go_simp; done) | (go_simp; go_num; done) | (go_simp; exact IntWalk.i64_in _ (by omega)) | (go_simp; rw [if_pos ⟨by omega, by omega⟩, str_ext5]; simp; done) | (go_simp; rw [if_pos (by omega), str_ext5]; simp; done) | (go_simp; rw [str_ext5]; simp; done) | (go_simp; rw [str_ext5, List.take_of_length_le (by omega)]; done)) hSa (fun a' ha' => ?_)
          simp only [Act.put, List.getElem_toArray, List.getElem_cons_succ, List.getElem_cons_zero, List.setIfInBounds_toArray, List.set_cons_succ, List.set_cons_zero] at ha'
          subst ha'
          refine wpAnyH_one (i := 11) (by kernel_rfl) rfl rfl (fun K hK => ?_)
          unfold Oper.wp
          go_simp
          refine hK _ _ hSb ?_
          clear hK K
          refine wpAnyH_fin (by kernel_rfl) ?_ _
          clear hS hSa
          go_wp2_with fail
          refine (r5Check_any _ A B).mono ?_
          rintro e w6 ⟨rfl, h6⟩
          have hB6 : Below w.heap.size w w6 := hBX.trans (h6.mono hBX.size)
          have c60 : w6.cell? ⟨w.heap.size, 0, none⟩ = some (.int .i64 0) := cell_on h6 (by go_simp)
          have f60 : w6.frozen? ⟨w.heap.size, 0, none⟩ = false := frozen_on h6 (by first | (simp [World.size_alloc]; omega) | (show w.heap.size < (wr.heap.push _).size; simp; omega)) (by go_simp)
          have d60 : w6.cell? ⟨wr.heap.size, 0, none⟩ = some (.int .i64 A) := cell_on h6 (by go_simp)
          have c61 : w6.cell? ⟨w.heap.size, 1, none⟩ = some (.int .i64 0) := cell_on h6 (by go_simp)
          have f61 : w6.frozen? ⟨w.heap.size, 1, none⟩ = false := frozen_on h6 (by first | (simp [World.size_alloc]; omega) | (show w.heap.size < (wr.heap.push _).size; simp; omega)) (by go_simp)
          have d61 : w6.cell? ⟨wr.heap.size, 1, none⟩ = some (.int .i64 B) := cell_on h6 (by go_simp)
          clear h6 hBX hSb
          by_cases hok : DotOk A B
          · rw [checkD_ok hok]
            go_wp2_with fail
            refine bodyPost_ret (results_dot2 rfl _ A B rfl (by first | (go_simp; done)) (by first | (go_simp; done))) rfl ?_
            rw [HE.out, if_pos hok]
            exact ⟨rfl, by first | exact (hB6.setCell (Nat.le_refl _) _).setCell (Nat.le_refl _) _⟩
          · rw [checkD_no hok]
            go_wp2_with fail
            refine bodyPost_ret (results_dot2 rfl _ 0 0 rfl (by first | (go_simp; done)) (by first | (go_simp; done))) rfl ?_
            rw [HE.out, if_neg hok]
            exact ⟨rfl, by first | exact (hB6.setCell (Nat.le_refl _) _).setCell (Nat.le_refl _) _⟩
end Go.Proofs.YtockdekhdjmklaaDoor
