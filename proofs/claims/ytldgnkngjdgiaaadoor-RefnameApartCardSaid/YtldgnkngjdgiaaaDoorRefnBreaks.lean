/- The reference of layer 4: Breaks. -/
import Derived.Test.YtldgnkngjdgiaaaDoorRefnParts
namespace Go.Proofs.YtldgnkngjdgiaaaDoor
open Go.RowKit

theorem any_succ {α : Type} {l : List α} {f : α → Bool} {k : Nat} {x : α} (hx : l[k]? = some x) : (l.take (k + 1)).any f = ((l.take k).any f || f x) := by
  rw [List.take_add_one, hx, List.any_append]
  simp
theorem any_at {α : Type} {l : List α} {f : α → Bool} {k : Nat} {x : α} (hx : l[k]? = some x) (h : f x = true) : l.any f = true := List.any_eq_true.2 ⟨x, List.mem_of_getElem? hx, h⟩
theorem any_none {α : Type} {l : List α} {f : α → Bool} {k : Nat} {x : α} (h : l.any f = false) (hx : l[k]? = some x) : f x = false := by
  have := List.any_eq_false.1 h x (List.mem_of_getElem? hx)
  simpa using this
theorem str_list (x : List UInt8) : ({ data := x.toArray } : ByteArray).toList = x := by rw [ByteArray.toList_eq]
theorem str_nil : ({ data := #[] } : ByteArray).toList = [] := by rw [ByteArray.toList_eq]
theorem str_lock : ({ data := #[46, 108, 111, 99, 107] } : ByteArray).toList = lockB := by rw [ByteArray.toList_eq]; rfl

set_option maxRecDepth 100000 in
set_option maxHeartbeats 4000000 in
theorem r4Breaks_some (w : World) (s : List UInt8) (h1 : 1 ≤ s.length) (h100 : s.length ≤ 100) :
    Calls Tryd.prog 10 #[Str s] w fun e W' => e = .returned (.int .i64 (breaksB s : Nat)) ∧ Below w.heap.size w W' := by
  have hsz : (⟨s.toArray⟩ : ByteArray).size = s.length := by simp [ByteArray.size]
  have g1 : ¬ (s.length : Int) < 1 := by omega
  have g2 : ¬ (100 : Int) < (s.length : Int) := by omega
  obtain ⟨R, hR⟩ : ∃ R, R = breaksB s := ⟨_, rfl⟩
  rw [← hR]
  have HR := Lib.hid hR
  clear hR
  go_enter Tryd.func10, Tryd.ntmps10
  go_wp2_with fail
  go_loopw [3] (fun i wr => ∃ k : Nat, k ≤ s.length ∧ i = .int .i64 k ∧ ((s.take k).any fun c => !mayB c) = false ∧ wr = w) (fun i _ => s.length - (intOf i).toNat)
  case atStart => exact ⟨0, by omega, rfl, by simp, rfl⟩
  case round =>
    obtain ⟨k, hk, rfl, hno, rfl⟩ := hrel
    have HN := Lib.hid hno
    clear hno
    by_cases hlt : k < s.length
    case pos =>
      obtain ⟨c, hc⟩ : ∃ c, s[k]? = some c := ⟨_, List.getElem?_eq_getElem hlt⟩
      have ec : ∀ h, (({ data := s.toArray } : ByteArray)[k]'h) = c := fun h => byte_at4 hc h
      have HC := Lib.hid hc
      have hlt' : (k : Int) < (s.length : Int) := by omega
      clear hc
      go_wp2_with fail
      refine (r4may_any wr c).mono ?_
      rintro e w2 ⟨rfl, rfl⟩
      cases hm : mayB c with
      | true =>
        have HE := Lib.hid (show ((s.take (k + 1)).any fun c => !mayB c) = false by rw [any_succ HC.out, HN.out, hm]; rfl)
        clear hm HN HC ec
        go_wp2_with fail
        go_roundw
        case rel => exact ⟨k + 1, by omega, by go_num, HE.out, trivial⟩
        case measure => simp [intOf]; omega
      | false =>
        have HE := Lib.hid (show R = 2 by
          rw [HR.out, breaksB, if_neg (by omega), if_pos (any_at HC.out (by rw [hm]; rfl))])
        clear hm HN HC ec
        go_wp2
        go_ret
        exact ⟨by rw [HE.out]; rfl, Below.refl _ _⟩
    case neg =>
      obtain rfl : k = s.length := by omega
      have H2 := Lib.hid (show (s.any fun c => !mayB c) = false by have := HN.out; rwa [List.take_length] at this)
      clear HN
      have hlt' : ¬ (s.length : Int) < (s.length : Int) := by omega
      go_wp2_with fail
      refine (r4parts_any wr s (by omega)).mono ?_
      rintro e w1 ⟨vp, rfl, hrow, hB⟩
      have hss := hrow.ss
      have hpl := partsB_len s
      have HPP := Lib.hid (partsB_part s)
      obtain ⟨pl, hpd⟩ : ∃ pl, pl = partsB s := ⟨_, rfl⟩
      rw [← hpd] at hss hpl HPP
      have HPD := Lib.hid hpd
      clear hpd hrow
      obtain ⟨A, cp, rfl, hcp⟩ := hss.form
      go_wp2_with fail
      go_loopw [6] (fun i wr => ∃ k : Nat, k ≤ pl.length ∧ i = .int .i64 k ∧ ((pl.take k).any fun p => p == []) = false ∧ wr = w1) (fun i _ => pl.length - (intOf i).toNat)
      case atStart => exact ⟨0, by omega, rfl, by simp, rfl⟩
      case round =>
        obtain ⟨k, hk, rfl, hno, rfl⟩ := hrel
        have HN := Lib.hid hno
        clear hno
        by_cases hlt : k < pl.length
        case pos =>
          obtain ⟨x, hx⟩ : ∃ x, pl[k]? = some x := ⟨_, List.getElem?_eq_getElem hlt⟩
          obtain ⟨b, off, rfl, hcell⟩ := hss.at hx
          have HX := Lib.hid hx
          have hlt2 : (k : Int) < (pl.length : Int) := by omega
          clear hx
          have t1 := str_list x
          have t0 := str_nil
          cases hx0 : (x == []) with
          | false =>
            have HE := Lib.hid (show ((pl.take (k + 1)).any fun p => p == []) = false by rw [any_succ HX.out, HN.out, hx0]; rfl)
            clear HN HX
            go_wp2_with fail
            go_roundw
            case rel => exact ⟨k + 1, by omega, by go_num, HE.out, trivial⟩
            case measure => simp [intOf]; omega
          | true =>
            have HE := Lib.hid (show R = 3 by
              rw [HR.out, breaksB, if_neg (by omega), if_neg (by rw [H2.out]; simp), if_pos (by rw [← HPD.out]; exact any_at HX.out hx0)])
            clear HN HX
            obtain rfl : x = [] := by simpa using hx0
            go_wp2
            go_ret
            exact ⟨by rw [HE.out]; rfl, hB⟩
        case neg =>
          obtain rfl : k = pl.length := by omega
          have H3 := Lib.hid (show (pl.any fun p => p == []) = false by have := HN.out; rwa [List.take_length] at this)
          clear HN
          have hlt' : ¬ (pl.length : Int) < (pl.length : Int) := by omega
          have HW := Lib.hid hB
          go_wp2_with fail
          go_loopw [7] (fun i wr2 => ∃ k : Nat, k ≤ pl.length ∧ i = .int .i64 k ∧ ((pl.take k).any fun p => p[0]? == some 46) = false ∧ wr2 = wr) (fun i _ => pl.length - (intOf i).toNat)
          case atStart => exact ⟨0, by omega, rfl, by simp, rfl⟩
          case round =>
            obtain ⟨k, hk, rfl, hno, rfl⟩ := hrel
            have HN := Lib.hid hno
            clear hno
            by_cases hlt : k < pl.length
            case pos =>
              obtain ⟨x, hx⟩ : ∃ x, pl[k]? = some x := ⟨_, List.getElem?_eq_getElem hlt⟩
              obtain ⟨b, off, rfl, hcell⟩ := hss.at hx
              have HX := Lib.hid hx
              have hlt2 : (k : Int) < (pl.length : Int) := by omega
              have hxn := any_none H3.out hx
              obtain ⟨c, hc⟩ : ∃ c, x[0]? = some c := by
                cases x with
                | nil => simp at hxn
                | cons c r => exact ⟨c, rfl⟩
              have hx1 : 0 < x.length := (List.getElem?_eq_some_iff.1 hc).1
              have hxs : ({ data := x.toArray } : ByteArray).size = x.length := by simp [ByteArray.size]
              have ec : ∀ h, (({ data := x.toArray } : ByteArray)[0]'h) = c := fun h => byte_at4 hc h
              have hx2 : (0 : Int) < (x.length : Int) := by omega
              have HC := Lib.hid hc
              clear hx hxn hc
              by_cases h46 : (c.toNat : Int) = 46
              · have h4b : ((c.toNat : Int) == 46) = true := by simpa using h46
                have HE := Lib.hid (show R = 4 by
                  have h1 : c = 46 := by apply UInt8.toNat_inj.1; simp; omega
                  rw [HR.out, breaksB, if_neg (by omega), if_neg (by rw [H2.out]; simp), if_neg (by rw [← HPD.out, H3.out]; simp), if_pos (by rw [← HPD.out]; exact any_at HX.out (by rw [HC.out, h1]; rfl))])
                clear h46 HN HX HC
                go_wp2
                go_ret
                exact ⟨by rw [HE.out]; rfl, hB⟩
              · have h4b : ((c.toNat : Int) == 46) = false := by simpa using h46
                have HE := Lib.hid (show ((pl.take (k + 1)).any fun p => p[0]? == some 46) = false by
                  rw [any_succ HX.out, HN.out, HC.out]
                  simp
                  intro e
                  exact h46 (by rw [e]; rfl))
                clear h46 HN HX HC
                go_wp2_with fail
                go_roundw
                case rel => exact ⟨k + 1, by omega, by go_num, HE.out, trivial⟩
                case measure => simp [intOf]; omega
            case neg =>
              obtain rfl : k = pl.length := by omega
              have H4 := Lib.hid (show (pl.any fun p => p[0]? == some 46) = false by have := HN.out; rwa [List.take_length] at this)
              clear HN
              go_wp2_with fail
              go_loopw [8] (fun i wr2 => ∃ k : Nat, 1 ≤ k ∧ k ≤ s.length ∧ i = .int .i64 k ∧ noPair 46 46 s k ∧ wr2 = wr) (fun i _ => s.length - (intOf i).toNat)
              case atStart => exact ⟨1, by omega, by omega, rfl, fun j hj => by omega, rfl⟩
              case round =>
                obtain ⟨k, hk1, hk, rfl, hno, rfl⟩ := hrel
                have HN := Lib.hid hno
                clear hno
                by_cases hlt : k < s.length
                case pos =>
                  obtain ⟨p, hpk⟩ : ∃ p, k = p + 1 := ⟨k - 1, by omega⟩
                  obtain ⟨y, hy⟩ : ∃ y, s[k]? = some y := ⟨_, List.getElem?_eq_getElem hlt⟩
                  obtain ⟨z, hz⟩ : ∃ z, s[p]? = some z := ⟨_, List.getElem?_eq_getElem (by omega)⟩
                  have ey : ∀ h, (({ data := s.toArray } : ByteArray)[k]'h) = y := fun h => byte_at4 hy h
                  have ez : ∀ h, (({ data := s.toArray } : ByteArray)[p]'h) = z := fun h => byte_at4 hz h
                  have hkp : (k : Int) - 1 = (p : Int) := by omega
                  have hlt2 : (k : Int) < (s.length : Int) := by omega
                  have hlp : (p : Int) < (s.length : Int) := by omega
                  have HX := Lib.hid (And.intro hpk (And.intro hy hz))
                  clear hpk hy hz
                  by_cases e1 : (y.toNat : Int) = 46
                  · have b1 : ((y.toNat : Int) == 46) = true := by simpa using e1
                    by_cases e2 : (z.toNat : Int) = 46
                    · have b2 : ((z.toNat : Int) == 46) = true := by simpa using e2
                      have HE := Lib.hid (show R = 5 by
                        have h1 : y = 46 := by apply UInt8.toNat_inj.1; simp; omega
                        have h2 : z = 46 := by apply UInt8.toNat_inj.1; simp; omega
                        obtain ⟨q1, q2, q3⟩ := HX.out
                        subst h1 h2 q1
                        rw [HR.out, breaksB, if_neg (by omega), if_neg (by rw [H2.out]; simp), if_neg (by rw [← HPD.out, H3.out]; simp), if_neg (by rw [← HPD.out, H4.out]; simp), if_pos (pair_at q3 q2)])
                      clear e1 e2 HX HN
                      go_wp2
                      go_ret
                      exact ⟨by rw [HE.out]; rfl, hB⟩
                    · have b2 : ((z.toNat : Int) == 46) = false := by simpa using e2
                      have HE := Lib.hid (noPair_succ HN.out HX.out.1 HX.out.2.2 HX.out.2.1 (fun h => e2 (by rw [h.1]; rfl)))
                      clear e1 e2 HX HN
                      go_wp2_with fail
                      go_roundw
                      case rel => exact ⟨k + 1, by omega, by omega, by go_num, HE.out, trivial⟩
                      case measure => simp [intOf]; omega
                  · have b1 : ((y.toNat : Int) == 46) = false := by simpa using e1
                    have HE := Lib.hid (noPair_succ HN.out HX.out.1 HX.out.2.2 HX.out.2.1 (fun h => e1 (by rw [h.2]; rfl)))
                    clear e1 HX HN
                    go_wp2_with fail
                    go_roundw
                    case rel => exact ⟨k + 1, by omega, by omega, by go_num, HE.out, trivial⟩
                    case measure => simp [intOf]; omega
                case neg =>
                  obtain rfl : k = s.length := by omega
                  have H5 := Lib.hid (noPair_all HN.out)
                  clear HN
                  go_wp2_with fail
                  go_loopw [9] (fun i wr2 => ∃ k : Nat, k ≤ pl.length ∧ i = .int .i64 k ∧ ((pl.take k).any endsLock) = false ∧ wr2 = wr) (fun i _ => pl.length - (intOf i).toNat)
                  case atStart => exact ⟨0, by omega, rfl, by simp, rfl⟩
                  case round =>
                    obtain ⟨k, hk, rfl, hno, rfl⟩ := hrel
                    have HN := Lib.hid hno
                    clear hno
                    by_cases hlt : k < pl.length
                    case pos =>
                      obtain ⟨x, hx⟩ : ∃ x, pl[k]? = some x := ⟨_, List.getElem?_eq_getElem hlt⟩
                      obtain ⟨b, off, rfl, hcell⟩ := hss.at hx
                      have hxl := HPP.out x (List.mem_of_getElem? hx)
                      have HX := Lib.hid hx
                      have hlt2 : (k : Int) < (pl.length : Int) := by omega
                      have hxs : ({ data := x.toArray } : ByteArray).size = x.length := by simp [ByteArray.size]
                      clear hx
                      by_cases h5 : 5 ≤ x.length
                      case pos =>
                        obtain ⟨q, hq⟩ : ∃ q, q = x.length - 5 := ⟨_, rfl⟩
                        have hq' : (x.length : Int) - 5 = (q : Int) := by omega
                        have h5' : (5 : Int) ≤ (x.length : Int) := by omega
                        have hqx : (q : Int) ≤ (x.length : Int) := by omega
                        have hext := str_ext x q x.length
                        rw [List.take_length] at hext
                        have t1 := str_list (x.drop q)
                        have t0 := str_lock
                        have HQ := Lib.hid hq
                        clear hq
                        cases hL : (x.drop q == lockB) with
                        | true =>
                          have HE := Lib.hid (show R = 6 by
                            rw [HR.out, breaksB, if_neg (by omega), if_neg (by rw [H2.out]; simp), if_neg (by rw [← HPD.out, H3.out]; simp), if_neg (by rw [← HPD.out, H4.out]; simp), if_neg (by rw [H5.out]; simp), if_pos (by rw [← HPD.out]; exact any_at HX.out (by unfold endsLock; rw [← HQ.out, hL, decide_eq_true h5]; rfl))])
                          clear HN HX
                          go_wp2
                          go_ret
                          exact ⟨by rw [HE.out]; rfl, hB⟩
                        | false =>
                          have HE := Lib.hid (show ((pl.take (k + 1)).any endsLock) = false by
                            rw [any_succ HX.out, HN.out]
                            unfold endsLock
                            rw [← HQ.out, hL]
                            simp)
                          clear HN HX
                          go_wp2_with fail
                          go_roundw
                          case rel => exact ⟨k + 1, by omega, by go_num, HE.out, trivial⟩
                          case measure => simp [intOf]; omega
                      case neg =>
                        have h5' : ¬ (5 : Int) ≤ (x.length : Int) := by omega
                        have HE := Lib.hid (show ((pl.take (k + 1)).any endsLock) = false by
                          rw [any_succ HX.out, HN.out]
                          unfold endsLock
                          rw [decide_eq_false h5]
                          rfl)
                        clear HN HX
                        go_wp2_with fail
                        go_roundw
                        case rel => exact ⟨k + 1, by omega, by go_num, HE.out, trivial⟩
                        case measure => simp [intOf]; omega
                    case neg =>
                      obtain rfl : k = pl.length := by omega
                      have H6 := Lib.hid (show (pl.any endsLock) = false by have := HN.out; rwa [List.take_length] at this)
                      clear HN
                      obtain ⟨q, hq⟩ : ∃ q, q = s.length - 1 := ⟨_, rfl⟩
                      have hq' : (s.length : Int) - 1 = (q : Int) := by omega
                      have hqs : (q : Int) < (s.length : Int) := by omega
                      obtain ⟨c, hc⟩ : ∃ c, s[q]? = some c := ⟨_, List.getElem?_eq_getElem (by omega)⟩
                      have ec : ∀ h, (({ data := s.toArray } : ByteArray)[q]'h) = c := fun h => byte_at4 hc h
                      have HC := Lib.hid (And.intro hq hc)
                      clear hq hc
                      by_cases e1 : (c.toNat : Int) = 46
                      case pos =>
                        have b1 : ((c.toNat : Int) == 46) = true := by simpa using e1
                        have HE := Lib.hid (show R = 7 by
                          have h1 : c = 46 := by apply UInt8.toNat_inj.1; simp; omega
                          rw [HR.out, breaksB, if_neg (by omega), if_neg (by rw [H2.out]; simp), if_neg (by rw [← HPD.out, H3.out]; simp), if_neg (by rw [← HPD.out, H4.out]; simp), if_neg (by rw [H5.out]; simp), if_neg (by rw [← HPD.out, H6.out]; simp), if_pos (by rw [← HC.out.1, HC.out.2, h1]; rfl)])
                        clear e1 HC
                        go_wp2
                        go_ret
                        exact ⟨by rw [HE.out]; rfl, hB⟩
                      case neg =>
                        have b1 : ((c.toNat : Int) == 46) = false := by simpa using e1
                        have H7 := Lib.hid (show ¬ (s[s.length - 1]? == some 46) = true by
                          rw [← HC.out.1, HC.out.2]
                          simp
                          intro e
                          exact e1 (by rw [e]; rfl))
                        clear e1 HC
                        go_wp2_with fail
                        clear ec hq' hqs b1
                        go_loopw [11] (fun i wr2 => ∃ k : Nat, 1 ≤ k ∧ k ≤ s.length ∧ i = .int .i64 k ∧ noPair 64 123 s k ∧ wr2 = wr) (fun i _ => s.length - (intOf i).toNat)
                        case atStart => exact ⟨1, by omega, by omega, rfl, fun j hj => by omega, rfl⟩
                        case round =>
                          obtain ⟨k, hk1, hk, rfl, hno, rfl⟩ := hrel
                          have HN := Lib.hid hno
                          clear hno
                          by_cases hlt : k < s.length
                          case pos =>
                            obtain ⟨p, hpk⟩ : ∃ p, k = p + 1 := ⟨k - 1, by omega⟩
                            obtain ⟨y, hy⟩ : ∃ y, s[k]? = some y := ⟨_, List.getElem?_eq_getElem hlt⟩
                            obtain ⟨z, hz⟩ : ∃ z, s[p]? = some z := ⟨_, List.getElem?_eq_getElem (by omega)⟩
                            have ey : ∀ h, (({ data := s.toArray } : ByteArray)[k]'h) = y := fun h => byte_at4 hy h
                            have ez : ∀ h, (({ data := s.toArray } : ByteArray)[p]'h) = z := fun h => byte_at4 hz h
                            have hkp : (k : Int) - 1 = (p : Int) := by omega
                            have hlt2 : (k : Int) < (s.length : Int) := by omega
                            have hlp : (p : Int) < (s.length : Int) := by omega
                            have HX := Lib.hid (And.intro hpk (And.intro hy hz))
                            clear hpk hy hz
                            by_cases e1 : (y.toNat : Int) = 123
                            · have b1 : ((y.toNat : Int) == 123) = true := by simpa using e1
                              by_cases e2 : (z.toNat : Int) = 64
                              · have b2 : ((z.toNat : Int) == 64) = true := by simpa using e2
                                have HE := Lib.hid (show R = 8 by
                                  have h1 : y = 123 := by apply UInt8.toNat_inj.1; simp; omega
                                  have h2 : z = 64 := by apply UInt8.toNat_inj.1; simp; omega
                                  obtain ⟨q1, q2, q3⟩ := HX.out
                                  subst h1 h2 q1
                                  rw [HR.out, breaksB, if_neg (by omega), if_neg (by rw [H2.out]; simp), if_neg (by rw [← HPD.out, H3.out]; simp), if_neg (by rw [← HPD.out, H4.out]; simp), if_neg (by rw [H5.out]; simp), if_neg (by rw [← HPD.out, H6.out]; simp), if_neg H7.out, if_pos (pair_at q3 q2)])
                                clear e1 e2 HX HN
                                go_wp2
                                go_ret
                                exact ⟨by rw [HE.out]; rfl, hB⟩
                              · have b2 : ((z.toNat : Int) == 64) = false := by simpa using e2
                                have HE := Lib.hid (noPair_succ HN.out HX.out.1 HX.out.2.2 HX.out.2.1 (fun h => e2 (by rw [h.1]; rfl)))
                                clear e1 e2 HX HN
                                go_wp2_with fail
                                go_roundw
                                case rel => exact ⟨k + 1, by omega, by omega, by go_num, HE.out, trivial⟩
                                case measure => simp [intOf]; omega
                            · have b1 : ((y.toNat : Int) == 123) = false := by simpa using e1
                              have HE := Lib.hid (noPair_succ HN.out HX.out.1 HX.out.2.2 HX.out.2.1 (fun h => e1 (by rw [h.2]; rfl)))
                              clear e1 HX HN
                              go_wp2_with fail
                              go_roundw
                              case rel => exact ⟨k + 1, by omega, by omega, by go_num, HE.out, trivial⟩
                              case measure => simp [intOf]; omega
                          case neg =>
                            obtain rfl : k = s.length := by omega
                            have HE := Lib.hid (show R = 0 by
                              rw [HR.out, breaksB, if_neg (by omega), if_neg (by rw [H2.out]; simp), if_neg (by rw [← HPD.out, H3.out]; simp), if_neg (by rw [← HPD.out, H4.out]; simp), if_neg (by rw [H5.out]; simp), if_neg (by rw [← HPD.out, H6.out]; simp), if_neg H7.out, if_neg (by rw [noPair_all HN.out]; simp)])
                            clear HN
                            go_wp2
                            go_ret
                            exact ⟨by rw [HE.out]; rfl, hB⟩

set_option maxRecDepth 100000 in
set_option maxHeartbeats 400000 in
theorem r4Breaks_none (w : World) (s : List UInt8) (hm : s.length ≤ 9223372036854775807) (h : s.length < 1 ∨ 100 < s.length) :
    Calls Tryd.prog 10 #[Str s] w fun e W' => e = .returned (.int .i64 (breaksB s : Nat)) ∧ Below w.heap.size w W' := by
  have hsz : (⟨s.toArray⟩ : ByteArray).size = s.length := by simp [ByteArray.size]
  have HE := Lib.hid (show breaksB s = 1 by rw [breaksB, if_pos h])
  go_enter Tryd.func10, Tryd.ntmps10
  by_cases h1 : s.length < 1
  · have g1 : (s.length : Int) < 1 := by omega
    clear h
    go_wp2
    go_ret
    exact ⟨by rw [HE.out]; rfl, Below.refl _ _⟩
  · have g1 : ¬ (s.length : Int) < 1 := by omega
    have g2 : (100 : Int) < (s.length : Int) := by omega
    clear h
    go_wp2
    go_ret
    exact ⟨by rw [HE.out]; rfl, Below.refl _ _⟩
/-- Breaks. -/
theorem r4Breaks_any (w : World) (s : List UInt8) (hm : s.length ≤ 9223372036854775807) :
    Calls Tryd.prog 10 #[Str s] w fun e W' => e = .returned (.int .i64 (breaksB s : Nat)) ∧ Below w.heap.size w W' := by
  by_cases h : s.length < 1 ∨ 100 < s.length
  · exact r4Breaks_none w s hm h
  · exact r4Breaks_some w s (by omega) (by omega)
end Go.Proofs.YtldgnkngjdgiaaaDoor
