/- The walk of SumRuns. -/
import Derived.Test.YtbclhjcnopfegaaSumAlive
namespace Go.Proofs.Ytbclhjcnopfegaa
open Go.RowKit

theorem split_wrapB {ys : List UInt8} (h : ys.length ≤ 4194304) : splitR (wrapB ys) = some (ys, []) := by
  have := splitR_wrap h []
  rwa [List.append_nil] at this

theorem shr_and {n : Nat} (hn : n < 4294967296) (j : Nat) : bits .and .u32 ((n : Int) / 2 ^ j) 1 = ((n / 2 ^ j % 2 : Nat) : Int) := by
  have h : (n : Int) / 2 ^ j = ((n / 2 ^ j : Nat) : Int) := by simp
  rw [h]
  exact and1 (Nat.lt_of_le_of_lt (Nat.div_le_self _ _) hn)

theorem flip_byte (y : UInt8) {r : Nat} (hr : r < 8) : B8 (UInt8.ofNat (y.toNat ^^^ 2 ^ r)) = .int .u8 (bits .xor .u8 (y.toNat : Int) (2 ^ r % 256)) := by
  have h1 : 2 ^ r < 256 := by have := Nat.pow_lt_pow_right (a := 2) (by omega) hr; simpa using this
  have h2 : ((2 : Int) ^ r % 256) = ((2 ^ r : Nat) : Int) := by
    have : ((2 : Int) ^ r) = ((2 ^ r : Nat) : Int) := by simp
    rw [this]
    generalize 2 ^ r = p at *
    omega
  rw [h2, u8_xor_nat _ _ (toNat_lt8 y) h1]
  unfold B8
  rw [UInt8.toNat_ofNat', Nat.mod_eq_of_lt (Nat.xor_lt_two_pow (n := 8) (toNat_lt8 y) h1)]
/-- With a run of bits turned the bytes are wrapped just if none was. -/
theorem runs_tell {ys ts : List UInt8} (hl : ts.length = (wrapB ys).length) {E fr : Nat} (hE : E < 4294967296) (hle : le ts = le (wrapB ys) ^^^ 2 ^ fr * E) (hy : ys.length ≤ 4194304) : ((unwrapR ts).1 == 0) = (ts == wrapB ys) := by
  by_cases h0 : E = 0
  · have : ts = wrapB ys := le_inj _ _ hl (by rw [hle, h0]; simp)
    rw [this, unwrapR_wrap hy]
    simp
  · have h1 : ts ≠ wrapB ys := by
      intro h
      rw [h] at hle
      have h2 := congrArg (fun x => le (wrapB ys) ^^^ x) hle
      simp only [← Nat.xor_assoc, Nat.xor_self, Nat.zero_xor] at h2
      have h3 : 2 ^ fr * E ≠ 0 := Nat.mul_ne_zero (by have := Nat.two_pow_pos fr; omega) h0
      omega
    rcases unwrapR_cases ts with ⟨a, h2, h3⟩ | ⟨_, h3⟩
    · obtain ⟨h4, _⟩ := splitR_some h2
      rw [List.append_nil] at h4
      rw [h4] at hl hle
      exact absurd (run_found hl.symm hE hle) h0
    · rw [h3]
      have : (ts == wrapB ys) = false := by simpa using h1
      rw [this]
      rfl

/-- With more behind they are wrapped just if that is nothing. -/
theorem more_tell {ys ms : List UInt8} (hy : ys.length ≤ 4194304) : ((unwrapR (wrapB ys ++ ms)).1 == 0) = ((ms.length : Int) == 0) := by
  unfold unwrapR
  rw [splitR_wrap hy ms]
  cases ms with
  | nil => rfl
  | cons m ms =>
    have : ¬ (((m :: ms).length : Int) = 0) := by simp; omega
    rw [beq_eq_false_iff_ne.2 this]
    rfl

set_option maxRecDepth 100000 in
set_option maxHeartbeats 2000000 in
theorem runs_some (w : World) (A B : Option Addr) (c d : Nat) (ys ms : List UInt8) (hs : Bs w (.slice A ys.length c) ys) (hm : Bs w (.slice B ms.length d) ms) (hl : ys.length ≤ 2000) (hml : ms.length ≤ 20)
    (at' bt cut : Nat) (hat : at' < 65536) (hbits : bt < 4294967296) (hcut : cut < 65536) :
    Calls Try.prog 4 #[.slice A ys.length c, .int .u16 at', .int .u32 bt, .int .u16 cut, .slice B ms.length d] w fun e W' => e = .returned (.bool true) ∧ Below w.heap.size w W' := by
  obtain ⟨i0, hi, hz0, hz1, hz2⟩ := info_parts infoU8
  go_enter Try.func4, Try.ntmps4
  go_wp2_with fail
  refine (alive_any _).mono ?_
  rintro e w1 ⟨rfl, h1⟩
  have hs1 := hs.below h1
  go_wp2_with fail
  refine (Wrap_any w1 _ ys hs1 (by omega)).mono ?_
  rintro e w2 ⟨v2, rfl, hown2, h2⟩
  have h2' := h1.trans (h2.mono h1.size)
  obtain ⟨A2, c2, rfl, hc2⟩ := (Bs.of_owns hown2).form
  have HWL := Lib.hid (wrapB_length ys)
  rw [HWL.out] at hc2
  have HO2 := Lib.hid hown2
  rw [HWL.out]
  rw [HWL.out] at HO2
  clear hown2
  go_wp2_with fail
  refine (Unwrap_ok w2 _ _ (HWL.out ▸ Bs.of_owns (HWL.out ▸ HO2.out)) (by rw [HWL.out]; omega) ys (split_wrapB (by omega))).mono ?_
  rintro e w3 ⟨v3, rfl, hown3, h3⟩
  have h3' := h2'.trans (h3.mono h2'.size)
  have hs3 := hs.below h3'
  have hcv1 := run_string_bs (P := Try.prog) w3 22 9 5 Try.underlying22 Try.underlying5 Try.underlying9 (Bs.of_owns hown3)
  have hcv2 := run_string_bs (P := Try.prog) w3 22 9 5 Try.underlying22 Try.underlying5 Try.underlying9 hs3
  obtain ⟨A3, n3, c3, rfl⟩ := owns_slice hown3
  have ho : (w3.alloc (.cells #[] 5)).ownsRow w3.heap.size 5 1 (.slice (some ⟨w3.heap.size, 0, none⟩) ([] : List UInt8).length 0) ([] : List UInt8).length (([] : List UInt8).map B8) := World.ownsRow_made w3 #[] 0 (Nat.le_refl _) (by simp [maxLen]) rfl
  have hb2 : Bs w2 (.slice A2 (ys.length + 8) c2) (wrapB ys) := HWL.out ▸ Bs.of_owns (HWL.out ▸ HO2.out)
  have hb3 := hb2.below (h3.trans ((Below.refl _ w3).alloc (Nat.le_refl _) (.cells #[] 5) |>.mono h3.size))
  have HB2 := Lib.hid hb2
  clear hb2 HO2 hs1 hown3
  go_wp2_with (at_builtin; refine wpList_append_bs rfl (.tmp 71) (.tmp 72) 22 rfl w3.heap.size 5 i0 Try.underlying22 hi hz0 hz1 hz2 _ [] rfl ho _ (wrapB ys) rfl hb3 (by rw [HWL.out]; simp; omega) (by simp) ?_; intro v4 w4 hown4 hg4 _ _ _)
  rw [List.nil_append] at hown4
  have h34 : Below w3.heap.size w3 w4 := ((Below.refl _ w3).alloc (Nat.le_refl _) _).trans ((Kept.of_grown hg4).below (fun j _ e => by have e' : some w3.heap.size = some j := e; cases e'; exact Nat.le_refl _) (by simp))
  obtain ⟨A4, c4, rfl, hc4⟩ := (Bs.of_owns hown4).form
  obtain ⟨g, rfl, _⟩ := row_at hown4 (by rw [HWL.out]; omega)
  have hr4 : Row w4 w3.heap.size (.slice (some ⟨g, 0, none⟩) (wrapB ys).length c4) (wrapB ys) := hown4
  have hg3 : w3.heap.size ≤ g := (hown4.lt g rfl).1
  rw [HWL.out] at hc4
  rw [HWL.out]
  obtain ⟨L, hL⟩ : ∃ L, L = ys.length + 8 := ⟨_, rfl⟩
  obtain ⟨fr, hfr⟩ : ∃ fr : Nat, fr = at' % (8 * L) := ⟨_, rfl⟩
  have hfr' : (at' : Int) % (8 * ((ys.length : Int) + 8)) = (fr : Int) := by rw [hfr, hL, Int.natCast_emod]; congr 1
  have hfl : fr < 8 * L := by rw [hfr]; exact Nat.mod_lt _ (by omega)
  rw [hfr']
  rw [HWL.out] at hr4
  rw [← hL] at hr4 HWL hc4 HB2 hc2
  rw [← hL]
  have HL := Lib.hid hL
  have hL8 : 8 ≤ L := by omega
  have hL2 : L ≤ 2008 := by omega
  clear hL
  have HR4 := Lib.hid hr4
  clear hr4
  clear hfr hfr' hown4 ho hb3 hg4 hcv1 hcv2
  go_loopw [18] (fun i wr => ∃ (j : Nat) (ts : List UInt8), j ≤ 32 ∧ i = .int .i64 j ∧ ts.length = L ∧ Row wr w3.heap.size (.slice (some ⟨g, 0, none⟩) L c4) ts ∧ le ts = le (wrapB ys) ^^^ 2 ^ fr * (bt % 2 ^ min j (8 * L - fr)) ∧ Below w3.heap.size w3 wr) (fun i _ => 32 - (intOf i).toNat)
  case atStart => exact ⟨0, wrapB ys, by omega, rfl, HWL.out, HR4.out, by simp [Nat.mod_one], h34⟩
  case round =>
    obtain ⟨j, ts, hj, rfl, htl, hrow, hle, hB⟩ := hrel
    have HTL := Lib.hid htl
    have HLE := Lib.hid hle
    have HROW := Lib.hid hrow
    clear hle hrow
    by_cases hj32 : j < 32
    case pos =>
      by_cases hb : bt / 2 ^ j % 2 = 1
      case pos =>
        by_cases hk : fr + j < 8 * L
        case pos =>
          obtain ⟨k, hkd⟩ : ∃ k, k = fr + j := ⟨_, rfl⟩
          obtain ⟨q, hqd⟩ : ∃ q, q = k / 8 := ⟨_, rfl⟩
          obtain ⟨r, hrd⟩ : ∃ r, r = k % 8 := ⟨_, rfl⟩
          have hq8 : q < L := by omega
          have hr8 : r < 8 := by omega
          have hkL : k < 8 * L := by omega
          have hkk : (fr : Int) + (j : Int) = (k : Int) := by omega
          have hqq : (k : Int) / 8 = (q : Int) := by omega
          have hrr : (k : Int) % 8 = (r : Int) := by omega
          have hbit : (bits .and .u32 ((bt : Int) / 2 ^ j) 1 == 1) = true := by rw [shr_and hbits, hb]; rfl
          obtain ⟨y, hy⟩ : ∃ y, ts[q]? = some y := ⟨ts[q]'(by omega), List.getElem?_eq_getElem (by omega)⟩
          have hrow' : Row wr w3.heap.size (.slice (some ⟨g, 0, none⟩) ts.length c4) ts := by rw [HTL.out]; exact HROW.out
          have cq := row_cell hrow' hy
          have fq := hrow'.frozenAt q
          have HKD := Lib.hid (And.intro hkd (And.intro hqd hrd))
          have HY := Lib.hid hy
          have HK := Lib.hid hk
          have HBT := Lib.hid hb
          clear hkd hqd hrd hy hrow' hb htl hk
          go_wp2_with fail
          have hst := row_set (q := q) (show Row wr w3.heap.size (.slice (some ⟨g, 0, none⟩) ts.length c4) ts by rw [HTL.out]; exact HROW.out) (UInt8.ofNat (y.toNat ^^^ 2 ^ r))
          rw [flip_byte y hr8, HTL.out] at hst
          refine ⟨⟨j + 1, ts.set q (UInt8.ofNat (y.toNat ^^^ 2 ^ r)), by omega, by go_num, by rw [List.length_set, HTL.out], hst, ?_, hB.setCell (p := ⟨g, q, none⟩) hg3 _⟩, by simp [intOf]; omega⟩
          obtain ⟨e1, e2, e3⟩ := HKD.out
          have hql : k / 8 < ts.length := by rw [HTL.out, ← e2]; exact hq8
          have hyt : ts[k / 8] = y := by have := HY.out; rw [e2, List.getElem?_eq_getElem hql] at this; exact Option.some.inj this
          rw [e2, e3, le_flip ts k hql _ (by rw [hyt, UInt8.toNat_ofNat', Nat.mod_eq_of_lt (Nat.xor_lt_two_pow (n := 8) (toNat_lt8 y) (by have := Nat.pow_lt_pow_right (a := 2) (by omega) (by omega : k % 8 < 8); simpa using this))]), HLE.out, flips_yes HBT.out (by omega), Nat.xor_assoc, e1]
        case neg =>
          have hbit : (bits .and .u32 ((bt : Int) / 2 ^ j) 1 == 1) = true := by rw [shr_and hbits, hb]; rfl
          have hkk : (8 * (L : Int)) ≤ (fr : Int) + (j : Int) := by omega
          have HNO := Lib.hid (flips_no (n := bt) (m := 8 * L - fr) (i := j) (by omega))
          clear hb htl hk
          go_wp2_with fail
          refine ⟨⟨j + 1, ts, by omega, by go_num, HTL.out, HROW.out, by rw [HNO.out]; exact HLE.out, hB⟩, by simp [intOf]; omega⟩
      case neg =>
        have hbit : (bits .and .u32 ((bt : Int) / 2 ^ j) 1 == 1) = false := by
          rw [shr_and hbits, show bt / 2 ^ j % 2 = 0 by omega]; rfl
        have HNO := Lib.hid (flips_no (n := bt) (m := 8 * L - fr) (i := j) (by omega))
        clear hb htl
        go_wp2_with fail
        refine ⟨⟨j + 1, ts, by omega, by go_num, HTL.out, HROW.out, by rw [HNO.out]; exact HLE.out, hB⟩, by simp [intOf]; omega⟩
    case neg =>
      obtain rfl : j = 32 := by omega
      obtain ⟨E, hE⟩ : ∃ E, E = bt % 2 ^ min 32 (8 * L - fr) := ⟨_, rfl⟩
      have hle := HLE.out
      rw [← hE] at hle
      have hEl : E < 4294967296 := by rw [hE]; exact Nat.lt_of_le_of_lt (Nat.mod_le _ _) hbits
      have htell : ((unwrapR ts).1 == 0) = (ts == wrapB ys) := runs_tell (HTL.out.trans HWL.out.symm) hEl hle (by omega)
      have hbt : Bs wr (.slice (some ⟨g, 0, none⟩) L c4) ts := HTL.out ▸ Bs.of_owns (HTL.out ▸ HROW.out)
      have hbw : Bs wr (.slice A2 L c2) (wrapB ys) := HB2.out.below (h3.trans (hB.mono h3.size))
      have hBw := h3'.trans (hB.mono h3'.size)
      have hmw := hm.below hBw
      have HT := Lib.hid htell
      have HTW := Lib.hid (And.intro hbt hbw)
      clear hE hle hEl htell hbw HLE HROW htl hs3 hs HR4 HB2
      go_wp2_with fail
      refine (Unwrap_tell wr _ ts hbt (by rw [HTL.out]; omega)).mono ?_
      rintro e w5 ⟨A5, n5, c5, rfl, h5⟩
      have HT5 := Lib.hid (And.intro (HTW.out.1.below h5) (HTW.out.2.below h5))
      have hB5 := hBw.trans (h5.mono hBw.size)
      have HR5 : Hid (((unwrapR ts).1 == 0) = (ts == wrapB ys)) := HT
      generalize (unwrapR ts).1 = er at *
      obtain ⟨ck, hck⟩ : ∃ ck : Nat, ck = cut % L := ⟨_, rfl⟩
      have hckL : ck < L := by rw [hck]; exact Nat.mod_lt _ (by omega)
      have hck' : (cut : Int) % (L : Int) = (ck : Int) := by rw [hck, Int.natCast_emod]
      have hcut5 : Bs w5 (.slice A2 ck c2) ((wrapB ys).take ck) := HT5.out.2.take (by rw [HWL.out]; omega)
      have hcutE : unwrapR ((wrapB ys).take ck) = (20, []) := by
        unfold unwrapR
        rw [cut_none2 (by omega) (by rw [HWL.out]; exact hckL)]
      have HCE := Lib.hid hcutE
      clear hck hcutE HT HTW hbt h5 hmw
      go_wp2_with fail
      refine (Unwrap_err w5 _ _ hcut5 (by simp; omega) HCE.out).mono ?_
      rintro e w6 ⟨rfl, h6⟩
      have HT6 := Lib.hid (And.intro (HT5.out.1.below h6) (HT5.out.2.below h6))
      have hB6 := hB5.trans (h6.mono hB5.size)
      have ho : (w6.alloc (.cells #[] 5)).ownsRow w6.heap.size 5 1 (.slice (some ⟨w6.heap.size, 0, none⟩) ([] : List UInt8).length 0) ([] : List UInt8).length (([] : List UInt8).map B8) := World.ownsRow_made w6 #[] 0 (Nat.le_refl _) (by simp [maxLen]) rfl
      have h66 : Below w6.heap.size w6 (w6.alloc (.cells #[] 5)) := (Below.refl _ w6).alloc (Nat.le_refl _) _
      have hbw6 := HT6.out.2.below h66
      clear HT5 hcut5 h6 hB5
      have hms6 := hm.below hB6
      go_wp2_with (at_builtin; first | (refine wpList_append_bs rfl (.tmp 131) (.tmp 132) 22 rfl w6.heap.size 5 i0 Try.underlying22 hi hz0 hz1 hz2 _ [] rfl ho _ (wrapB ys) rfl hbw6 (by rw [HWL.out]; simp; omega) (by simp) ?_; intro v7 w7 hown7 hg7 _ _ _; have h67 : Below w6.heap.size w6 w7 := h66.trans ((Kept.of_grown hg7).below (fun j _ e => by have e' : some w6.heap.size = some j := e; cases e'; exact Nat.le_refl _) (by simp)); have hms7 := hms6.below h67; clear hg7; obtain ⟨A7, n7, c7, rfl⟩ := owns_slice hown7) | (refine wpList_append_bs rfl (.tmp 133) (.tmp 134) 22 rfl w6.heap.size 5 i0 Try.underlying22 hi hz0 hz1 hz2 _ _ rfl hown7 _ ms rfl hms7 (by rw [List.nil_append, HWL.out]; omega) h67.size ?_; intro v8 w8 hown8 hg8 _ _ _; obtain ⟨A8, n8, c8, rfl⟩ := owns_slice hown8))
      rw [List.nil_append] at hown8
      have h68 := h67.trans ((Kept.of_grown hg8).below (fun j _ e => (hown7.lt j e).1) h67.size)
      have HT8 := Lib.hid (And.intro (HT6.out.1.below h68) (HT6.out.2.below h68))
      have hB8 := hB6.trans (h68.mono hB6.size)
      have h3e : ((unwrapR (wrapB ys ++ ms)).1 == 0) = ((ms.length : Int) == 0) := more_tell (by omega)
      clear ho h66 hbw6 hown7 hg8 hms7 HT6 hms6 h67 h68
      refine (Unwrap_tell w8 _ (wrapB ys ++ ms) (Bs.of_owns hown8) (by rw [List.length_append, HWL.out]; omega)).mono ?_
      rintro e w9 ⟨A9, n9, c9, rfl, h9⟩
      generalize (unwrapR (wrapB ys ++ ms)).1 = er2 at *
      have hcv1 := run_string_bs (P := Try.prog) w9 22 9 5 Try.underlying22 Try.underlying5 Try.underlying9 (HT8.out.1.below h9)
      have hcv2 := run_string_bs (P := Try.prog) w9 22 9 5 Try.underlying22 Try.underlying5 Try.underlying9 (HT8.out.2.below h9)
      have hB9 := hB8.trans (h9.mono hB8.size)
      clear HT8 hown8 h9 hB8
      have hr5 := HR5.out
      obtain ⟨b1, hb1⟩ : ∃ b, (ts == wrapB ys) = b := ⟨_, rfl⟩
      obtain ⟨b2, hb2⟩ : ∃ b, ((ms.length : Int) == 0) = b := ⟨_, rfl⟩
      rw [hb1] at hr5
      rw [hb2] at h3e
      clear HR5 HTL HWL HCE hm
      cases b1 <;> cases b2 <;> (go_wp2; go_ret; exact ⟨rfl, hB9⟩)

set_option maxRecDepth 100000 in
set_option maxHeartbeats 400000 in
theorem runs_great (w : World) (A B : Option Addr) (n m c d : Nat) (hn : n ≤ 9223372036854775807) (hm : m ≤ 9223372036854775807) (h : 2000 < n ∨ 20 < m) (at' bt cut : Int) :
    Calls Try.prog 4 #[.slice A n c, .int .u16 at', .int .u32 bt, .int .u16 cut, .slice B m d] w fun e W' => e = .returned (.bool true) ∧ Below w.heap.size w W' := by
  go_enter Try.func4, Try.ntmps4
  go_wp2_with fail
  refine (alive_any _).mono ?_
  rintro e w1 ⟨rfl, h1⟩
  by_cases hg : 2000 < n
  · clear h
    go_wp2
    go_ret
    exact ⟨rfl, h1⟩
  · have h' : 20 < m := by omega
    clear h
    go_wp2
    go_ret
    exact ⟨rfl, h1⟩

/-- For all arguments. -/
theorem runs_any (w : World) (v : Value) (ys : List UInt8) (hs : Bs w v ys) (hl : ys.length ≤ 9223372036854775807) (at' : Nat) (hat : at' < 65536) (bt : Nat) (hbt : bt < 4294967296) (cut : Nat) (hcut : cut < 65536) (u : Value) (ms : List UInt8) (hm : Bs w u ms) (hml : ms.length ≤ 9223372036854775807) :
    Calls Try.prog 4 #[v, .int .u16 at', .int .u32 bt, .int .u16 cut, u] w fun e W' => e = .returned (.bool true) ∧ Below w.heap.size w W' := by
  obtain ⟨A, c, rfl, _⟩ := hs.form
  obtain ⟨B, d, rfl, _⟩ := hm.form
  by_cases h : 2000 < ys.length ∨ 20 < ms.length
  · exact runs_great w A B _ _ c d hl hml h _ _ _
  · exact runs_some w A B c d ys ms hs hm (by omega) (by omega) at' bt cut hat hbt hcut
end Go.Proofs.Ytbclhjcnopfegaa
