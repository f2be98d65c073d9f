/- Encode of vectors: the program's and the reference's (tools/gencode.py). -/
import Derived.Test.YtbkbogblbniogaaStep
import Derived.Test.YtbkbogblbniogaaLebSinkMore
import Derived.Test.YtbkbogblbniogaaLebRef
namespace Go.Proofs.Ytbkbogblbniogaa
open Go.RowKit Go.Great
set_option maxRecDepth 100000

theorem sinkBelow {W W' : World} {n g : Nat} {v : Value} {xs xs' : List UInt8} (hat : SinkAt W n g v xs) (hn : n ≤ W.heap.size) (hg : n ≤ g) (h : SinkWrote W n g v xs' W') : Below n W W' := by
  obtain ⟨v', _, hk, _⟩ := h
  exact hk.below (fun j _ t => by rcases t with rfl | t; exact hg; exact (hat.row.lt j t).1) hn
theorem countN_step0 (v : Vc) (k : Nat) (h : (atV v k).toNat = 0) : countN v (k + 1) = countN v k := by
  have : atV v k = 0 := UInt32.toNat_inj.1 (by simpa using h)
  simp [countN, this]
theorem countN_step1 (v : Vc) (k : Nat) (h : (atV v k).toNat ≠ 0) : countN v (k + 1) = k + 1 := by
  have : atV v k ≠ 0 := fun e => h (by rw [e]; rfl)
  simp [countN, this]
theorem BoxV.belowN {w w' : World} {g n : Nat} {v : Vc} (h : BoxV w g v) (hb : Below n w w') (hg : g < n) : BoxV w' g v := (hb.block g hg).trans h

set_option maxHeartbeats 1000000 in
theorem pVSites_form (w : World) (v : Vc) (q : Nat) (hq : countN v 16 = q) :
    Calls Try.prog 52 #[VecV v] w fun e W' => e = .returned (.int .i64 (q : Int)) ∧ Below w.heap.size w W' := by
  have HQ := Lib.hid hq
  clear hq
  obtain ⟨w2, hw2⟩ : ∃ x, x = w.alloc (.cells (encC v).toArray 24) := ⟨_, rfl⟩
  have b1 : BoxV w2 w.heap.size v := by rw [hw2]; exact BoxV.new w v
  have hB0 : Below w.heap.size w w2 := by rw [hw2]; exact below_alloc w _
  go_enter Try.func52, Try.ntmps52
  go_wp2_with fail
  rw [← hw2]
  clear hw2
  go_loopw [3, 5] (fun n i wr => ∃ k m : Nat, k ≤ 16 ∧ i = .int .i64 k ∧ n = .int .i64 m ∧ countN v k = m ∧ Below w2.heap.size w2 wr) (fun _ i _ => 16 - (intOf i).toNat)
  case atStart => exact ⟨0, 0, by omega, rfl, rfl, rfl, Below.refl _ _⟩
  case round =>
    obtain ⟨k, m, hk, rfl, rfl, hm, hB⟩ := hrel
    have HM := Lib.hid hm
    clear hm
    by_cases hlt : k < 16
    case pos =>
      have c1 := (b1.below hB).cell hlt
      have hlt' : (k : Int) < 16 := by omega
      have h0' : (0 : Int) ≤ (k : Int) := by omega
      have n1 : IntKind.i64.wrap ((k : Int) + 1) = (k : Int) + 1 := IntWalk.i64_in _ (by omega)
      by_cases h0 : (atV v k).toNat = 0
      · have HE := Lib.hid (show countN v (k + 1) = m by rw [countN_step0 v k h0]; exact HM.out)
        have h1 : ((atV v k).toNat : Int) = 0 := by omega
        clear h0 HM
        go_wp2_with fail
        go_roundw
        case rel => exact ⟨k + 1, m, by omega, by go_num, rfl, HE.out, hB⟩
        case measure => simp [intOf]; omega
      · have HE := Lib.hid (countN_step1 v k h0)
        have h1 : ¬ ((atV v k).toNat : Int) = 0 := by omega
        clear h0 HM
        go_wp2_with fail
        go_roundw
        case rel => exact ⟨k + 1, k + 1, by omega, by go_num, by go_num, HE.out, hB⟩
        case measure => simp [intOf]; omega
    case neg =>
      obtain rfl : k = 16 := by omega
      have HE := Lib.hid (HM.out.symm.trans HQ.out)
      go_wp2
      go_ret
      exact ⟨by rw [HE.out]; rfl, hB0.trans (hB.mono hB0.size)⟩
theorem pVSites_any (w : World) (v : Vc) : Calls Try.prog 52 #[VecV v] w fun e W' => e = .returned (.int .i64 (countN v 16 : Nat)) ∧ Below w.heap.size w W' := pVSites_form w v _ rfl

set_option maxHeartbeats 1000000 in
theorem pVEncode_form (w : World) (v : Vc) (q : Nat) (hq : countN v 16 = q) (hq16 : q ≤ 16) (Z : List UInt8) (hZ : lebB q ++ bytesN v q = Z) (hZl : Z.length ≤ 1000) :
    Calls Try.prog 31 #[VecV v] w (Made w Z) := by
  have HZ := Lib.hid hZ
  have cs := fun W => pVSites_form W v q hq
  clear hZ hq
  obtain ⟨w2, hw2⟩ : ∃ x, x = w.alloc (.cells (encC v).toArray 24) := ⟨_, rfl⟩
  have b1 : BoxV w2 w.heap.size v := by rw [hw2]; exact BoxV.new w v
  have hB0 : Below w.heap.size w w2 := by rw [hw2]; exact below_alloc w _
  have hs2 : w2.heap.size = w.heap.size + 1 := by rw [hw2, World.size_alloc]
  have hsink : SinkAt (w2.alloc (.cells #[.slice none 0 0] 85)) w2.heap.size w2.heap.size (.slice none 0 0) [] := ⟨Boxed.new w2 _ _, World.ownsRow_nil _ _ _ _⟩
  have hb2 := below_alloc w2 (.cells #[.slice none 0 0] 85)
  have b2 := b1.below hb2
  have HS := Lib.hid hsink
  subst hw2
  rw [World.size_alloc] at HS hs2
  clear hsink b1 hs2
  go_enter Try.func31, Try.ntmps31
  go_wp2_with (refine wpList_load_vec rfl (.tmp 1) rfl rfl b2.at ?_)
  refine (cs _).mono ?_
  rintro e w3 ⟨rfl, hb3⟩
  replace b2 := b2.below hb3
  have hs3 : w.heap.size + 1 < w3.heap.size := by have := hb3.size; simp [World.size_alloc] at this; omega
  have h3 : SinkAt w3 (w.heap.size + 1) (w.heap.size + 1) (.slice none 0 0) [] := by
    refine ⟨(Kept.of_below hb3 (Nat.le_refl _) (fun _ => False)).boxed HS.out.box (fun h => h), World.ownsRow_nil _ _ _ _⟩
  have hB3 : Below (w.heap.size + 1) (w.alloc (.cells (encC v).toArray 24)) w3 := by
    have := hb2.trans (hb3.mono hb2.size)
    rwa [World.size_alloc] at this
  replace HS := Lib.hid h3
  clear hb3 h3 hb2
  have n1 : IntKind.u64.wrap (q : Int) = q := IntWalk.u64_in _ (by omega)
  go_wp2_with fail
  refine (SinkNumber_any (w.heap.size + 1) q (by omega) _ _ _ (w.heap.size + 1) (by omega) HS.out (by simp)).mono ?_
  rintro e w4 ⟨rfl, h4⟩
  have hB34 := sinkBelow HS.out (by omega) (Nat.le_refl _) h4
  have hB4 := hB3.trans hB34
  replace b2 := b2.belowN hB34 (by omega)
  have hs4 : w.heap.size + 1 < w4.heap.size := Nat.lt_of_lt_of_le hs3 hB34.size
  obtain ⟨v4, hat4, _, _⟩ := h4
  replace HS := Lib.hid (show SinkAt w4 (w.heap.size + 1) (w.heap.size + 1) v4 (lebB q ++ bytesN v 0) by simpa [bytesN] using hat4)
  clear hat4 hB34 hs3
  go_wp2_with fail
  go_loopw [12] (fun i wr => ∃ (k : Nat) (vs : Value), k ≤ q ∧ i = .int .i64 k ∧ SinkAt wr (w.heap.size + 1) (w.heap.size + 1) vs (lebB q ++ bytesN v k) ∧ Below (w.heap.size + 1) w4 wr) (fun i _ => q - (intOf i).toNat)
  case atStart => exact ⟨0, v4, by omega, rfl, HS.out, Below.refl _ _⟩
  case round =>
    obtain ⟨k, vs, hk, rfl, hat, hB⟩ := hrel
    have HA := Lib.hid hat
    clear hat
    have hsr : w.heap.size + 1 < wr.heap.size := Nat.lt_of_lt_of_le hs4 hB.size
    by_cases hlt : k < q
    case pos =>
      have hk16 : k < 16 := by omega
      have c1 := (b2.belowN hB (by omega)).cell hk16
      have hltu := (atV v k).toNat_lt
      have HL := Lib.hid (show lebB q ++ bytesN v k ++ lebB (atV v k).toNat = lebB q ++ bytesN v (k + 1) by rw [bytesN, List.append_assoc])
      have hlen : (lebB q ++ bytesN v k).length ≤ 1000000000 := by
        have h1 := lebB_u64 (n := q) (by omega)
        have h2 := bytesN_len v k
        rw [List.length_append]
        omega
      obtain ⟨x, hx⟩ : ∃ x, x = (atV v k).toNat := ⟨_, rfl⟩
      replace c1 : wr.cell? ⟨w.heap.size, k, none⟩ = some (.int .u32 (x : Int)) := by rw [hx]; exact c1
      rw [← hx] at HL hltu
      clear hx
      have n2 : IntKind.u64.wrap (x : Int) = x := IntWalk.u64_in _ (by omega)
      have hlt' : (k : Int) < (q : Int) := by omega
      have h16 : (k : Int) < 16 := by omega
      have h0' : (0 : Int) ≤ (k : Int) := by omega
      have HLEN := Lib.hid hlen
      clear hlen
      go_wp2_with fail
      refine (SinkNumber_any (w.heap.size + 1) x (by omega) _ _ _ (w.heap.size + 1) (by omega) HA.out HLEN.out).mono ?_
      rintro e w5 ⟨rfl, h5⟩
      have hB5 := hB.trans (sinkBelow HA.out (by omega) (Nat.le_refl _) h5)
      obtain ⟨v5, hat5, _, _⟩ := h5
      rw [HL.out] at hat5
      have H5 := Lib.hid hat5
      clear hat5 HL HA HLEN
      go_wp2_with fail
      go_roundw
      case rel => exact ⟨k + 1, v5, by omega, by go_num, H5.out, hB5⟩
      case measure => simp [intOf]; omega
    case neg =>
      obtain rfl : k = q := by omega
      have hat : SinkAt wr (w.heap.size + 1) (w.heap.size + 1) vs Z := by rw [← HZ.out]; exact HA.out
      clear HA
      go_wp2_with fail
      refine (SinkAll_any (w.heap.size + 1) _ _ _ (w.heap.size + 1) hat (by omega)).mono ?_
      rintro e w6 ⟨v6, rfl, hr6, h6⟩
      obtain ⟨A6, n6, c6, rfl⟩ := owns_slice hr6
      have HR := Lib.hid (owns_base hr6 (base' := w.heap.size) (by omega))
      clear hr6 hat
      go_wp2_with fail
      go_ret
      have hfin := hB4.trans (hB.trans (h6.mono (by omega)))
      exact ⟨_, rfl, HR.out, hB0.trans (hfin.mono (by omega))⟩
theorem pVEncode_any (w : World) (v : Vc) : Calls Try.prog 31 #[VecV v] w (Made w (encV v)) :=
  pVEncode_form w v _ rfl (countN_le v 16) _ rfl (by have := encV_len v; omega)

theorem countN_down (v : Vc) {k : Nat} (h : (atV v k).toNat = 0) (hk : countN v (k + 1) = countN v 16) : countN v k = countN v 16 := by rw [← hk, countN_step0 v k h]

set_option maxHeartbeats 1000000 in
theorem r6Encode_form (w : World) (v : Vc) (q : Nat) (hq : countN v 16 = q) (hq16 : q ≤ 16) (Z : List UInt8) (hZ : lebB q ++ bytesN v q = Z) (_ : Z.length ≤ 1000) :
    Calls Try.prog 32 #[VecV v] w (Made w Z) := by
  have HZ := Lib.hid hZ
  have HQ := Lib.hid hq
  clear hZ hq
  obtain ⟨i0, hi, hz0, hz1, hz2⟩ := info_parts infoU8
  obtain ⟨w2, hw2⟩ : ∃ x, x = w.alloc (.cells (encC v).toArray 24) := ⟨_, rfl⟩
  have b1 : BoxV w2 w.heap.size v := by rw [hw2]; exact BoxV.new w v
  have hB0 : Below w.heap.size w w2 := by rw [hw2]; exact below_alloc w _
  have hs2 : w2.heap.size = w.heap.size + 1 := by rw [hw2, World.size_alloc]
  go_enter Try.func32, Try.ntmps32
  go_wp2_with fail
  rw [← hw2]
  clear hw2
  go_loopw [3] (fun i wr => ∃ k : Nat, k ≤ 16 ∧ i = .int .i64 k ∧ countN v k = q ∧ wr = w2) (fun i _ => (intOf i).toNat)
  case atStart => exact ⟨16, by omega, rfl, HQ.out, rfl⟩
  case round =>
    obtain ⟨k, hk, rfl, hc, rfl⟩ := hrel
    have HC := Lib.hid hc
    clear hc
    by_cases hz : k ≠ 0 ∧ (atV v (k - 1)).toNat = 0
    case pos =>
      obtain ⟨m, rfl⟩ : ∃ m, k = m + 1 := ⟨k - 1, by omega⟩
      have hm : m < 16 := by omega
      have hx : (atV v m).toNat = 0 := hz.2
      have HE := Lib.hid (show countN v m = q by rw [← countN_step0 v m hx]; exact HC.out)
      have c1 : wr.cell? ⟨w.heap.size, m, none⟩ = some (.int .u32 0) := by have := b1.cell hm; rw [show W32 (atV v m) = .int .u32 0 by unfold W32; rw [hx]; rfl] at this; exact this
      have hm' : (m : Int) < 16 := by omega
      have hm0 : (0 : Int) ≤ (m : Int) := by omega
      have n1 : ((m + 1 : Nat) : Int) - 1 = m := by omega
      have n2 : (0 : Int) < ((m + 1 : Nat) : Int) := by omega
      clear hz hx HC
      generalize hmm : ((m + 1 : Nat) : Int) = mm at *
      have n3 : IntKind.i64.wrap (mm - 1) = m := by rw [n1]; exact IntWalk.i64_in _ (by omega)
      go_wp2_with fail
      go_roundw
      case rel => exact ⟨m, by omega, by first | rfl | (congr 1; omega) | go_num, HE.out, by first | rfl | trivial⟩
      case measure => subst hmm; simp [intOf]; try omega
    case neg =>
      have hkq : k = q := by
        rcases Nat.eq_zero_or_pos k with h0 | h0
        · have := HC.out; subst h0; simp only [countN] at this; exact this
        · have hne : (atV v (k - 1)).toNat ≠ 0 := fun e => hz ⟨by omega, e⟩
          have := countN_step1 v (k - 1) hne
          rw [show k - 1 + 1 = k by omega] at this
          exact this.symm.trans HC.out
      subst hkq
      clear HC HQ
      have HW : ∀ K : Prop, (k = 0 → K) → (∀ m, k = m + 1 → (atV v m).toNat ≠ 0 → K) → K := fun K h1 h2 => by
        rcases Nat.eq_zero_or_pos k with h0 | h0
        · exact h1 h0
        · exact h2 (k - 1) (by omega) (fun e => hz ⟨by omega, e⟩)
      clear hz
      have n5 : IntKind.u64.wrap (k : Int) = k := IntWalk.u64_in _ (by omega)
      refine HW _ (fun h0 => ?k0) (fun m hm hx => ?k1)
      case' k0 =>
        have hle : ¬ (0 : Int) < (k : Int) := by omega
        clear HW h0
        go_wp2_with fail
      case' k1 =>
        have hle : (0 : Int) < (k : Int) := by omega
        have hm16 : m < 16 := by omega
        have hm' : (m : Int) < 16 := by omega
        have hm0 : (0 : Int) ≤ (m : Int) := by omega
        have n3 : IntKind.i64.wrap ((k : Int) - 1) = m := by rw [show (k : Int) - 1 = m by omega]; exact IntWalk.i64_in _ (by omega)
        have n4 : (k : Int) - 1 = m := by omega
        have c1 := b1.cell hm16
        have hx' : ¬ ((atV v m).toNat : Int) = 0 := by omega
        clear HW hm hx
        go_wp2_with fail
      all_goals (
        refine (rNumber_any k (by omega) _).mono ?_
        rintro e w3 ⟨v3, rfl, hrow3, hb3⟩
        have b3 := b1.below hb3
        obtain ⟨A3, m3, c3, rfl⟩ := owns_slice hrow3
        have HR := Lib.hid (show Row w3 (w.heap.size + 1) (.slice A3 m3 c3) (lebB k ++ bytesN v 0) by
          have := owns_base hrow3 (base' := w.heap.size + 1) (by omega)
          simpa [bytesN, Row] using this)
        clear hrow3
        have hs3 : w.heap.size + 1 ≤ w3.heap.size := by have := hb3.size; omega
        go_wp2_with fail
        go_loopw [4, 5] (fun b i wr => ∃ (j : Nat) (A : Option Addr) (n c : Nat), j ≤ k ∧ i = .int .i64 j ∧ b = .slice A n c ∧ Row wr (w.heap.size + 1) (.slice A n c) (lebB k ++ bytesN v j) ∧ Below (w.heap.size + 1) w3 wr) (fun _ i _ => k - (intOf i).toNat)
        case atStart => exact ⟨0, A3, m3, c3, by omega, rfl, rfl, HR.out, Below.refl _ _⟩
        case round =>
          obtain ⟨j, A, n, c, hj, rfl, rfl, hrow, hB⟩ := hrel
          have HW2 := Lib.hid hrow
          clear hrow
          by_cases hlt : j < k
          case pos =>
            have hj16 : j < 16 := by omega
            have c1 := (b3.belowN hB (by omega)).cell hj16
            have hltu := (atV v j).toNat_lt
            have HL := Lib.hid (show lebB k ++ bytesN v j ++ lebB (atV v j).toNat = lebB k ++ bytesN v (j + 1) by rw [bytesN, List.append_assoc])
            have HLEN := Lib.hid (show (lebB k ++ bytesN v j).length ≤ 1000 by
              have h1 := lebB_u64 (n := k) (by omega)
              have h2 := bytesN_len v j
              rw [List.length_append]
              omega)
            obtain ⟨x, hx⟩ : ∃ x, x = (atV v j).toNat := ⟨_, rfl⟩
            replace c1 : wr.cell? ⟨w.heap.size, j, none⟩ = some (.int .u32 (x : Int)) := by rw [hx]; exact c1
            rw [← hx] at HL hltu
            clear hx
            have n6 : IntKind.u64.wrap (x : Int) = x := IntWalk.u64_in _ (by omega)
            have hl1 := lebB_u64 (n := x) (by omega)
            have hlt' : (j : Int) < (k : Int) := by omega
            have h16 : (j : Int) < 16 := by omega
            have h0' : (0 : Int) ≤ (j : Int) := by omega
            have hsr : w.heap.size + 1 ≤ wr.heap.size := Nat.le_trans hs3 hB.size
            go_wp2_with fail
            refine (rNumber_any x (by omega) _).mono ?_
            rintro e w5 ⟨v5, rfl, hrow5, hb5⟩
            have HR5 := Lib.hid (owns_below HW2.out hb5)
            have hB5 := hB.trans (hb5.mono hsr)
            have hbs := Bs.of_owns hrow5
            obtain ⟨A5, c5, rfl, hc5⟩ := hbs.form
            have HB5 := Lib.hid hbs
            clear hrow5 hbs HW2
            go_wp2_with (at_builtin; refine wpList_append_bs rfl (.tmp 25) (.tmp 30) 45 rfl (w.heap.size + 1) 5 i0 Try.underlying45 hi hz0 hz1 hz2 _ (lebB k ++ bytesN v j) rfl HR5.out _ (lebB x) rfl HB5.out (by have := HLEN.out; omega) (by have := hb5.size; omega) ?_; intro v' w6 hown6 hg6 hw6 _ _; obtain ⟨A', n', c', rfl⟩ := owns_slice hown6)
            have hB6 : Below (w.heap.size + 1) w3 w6 := hB5.trans ((Kept.of_grown hg6).below (fun j _ e => (HR5.out.lt j e).1) (by have := hb5.size; omega))
            rw [HL.out] at hown6
            have H6 := Lib.hid hown6
            clear hown6 HL HR5 HB5 HLEN
            go_roundw
            case rel => exact ⟨j + 1, A', n', c', by omega, by go_num, rfl, H6.out, hB6⟩
            case measure => simp [intOf]; omega
          case neg =>
            obtain rfl : j = k := by omega
            have hr := HW2.out
            rw [HZ.out] at hr
            have HR6 := Lib.hid (owns_base hr (base' := w.heap.size) (by omega))
            clear hr HW2
            go_wp2_with fail
            go_ret
            exact ⟨_, rfl, HR6.out, hB0.trans (((Below.refl _ _).trans (hb3.mono (by omega))).trans (hB.mono (by omega)))⟩)
theorem r6Encode_any (w : World) (v : Vc) : Calls Try.prog 32 #[VecV v] w (Made w (encV v)) :=
  r6Encode_form w v _ rfl (countN_le v 16) _ rfl (by have := encV_len v; omega)
end Go.Proofs.Ytbkbogblbniogaa
