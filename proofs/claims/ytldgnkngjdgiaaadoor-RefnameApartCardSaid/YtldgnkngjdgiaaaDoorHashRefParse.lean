/- The reference's Parse. -/
import Derived.Test.YtldgnkngjdgiaaaDoorHashRefText
import Derived.Test.YtldgnkngjdgiaaaDoorIdBox
namespace Go.Proofs.YtldgnkngjdgiaaaDoor
open Go.RowKit

/-- The bytes of digits, two a byte. -/
def parseB : List UInt8 → Option (List UInt8)
  | a :: b :: r => if digV a < 0 ∨ digV b < 0 then none else (parseB r).map (UInt8.ofNat (16 * digV a + digV b).toNat :: ·)
  | [] => some []
  | [_] => none
/-- What a text is: the error, the id. -/
def parseR (s : List UInt8) : Int × List UInt8 := if s.length = 64 then (match parseB s with | some xs => (0, xs) | none => (30, zeroID)) else (30, zeroID)

set_option maxRecDepth 100000 in
set_option maxHeartbeats 1000000 in
theorem rParse_long (w : World) (s : List UInt8) (hs : s.length ≠ 64) (hm : s.length ≤ 1000000) :
    Calls Tryd.prog 38 #[Str s] w fun e W' => e = .returned (.tuple #[IdV zeroID, .int .i64 30]) ∧ Below w.heap.size w W' := by
  have hsz : (⟨s.toArray⟩ : ByteArray).size = s.length := by simp [ByteArray.size]
  have hne : ¬ (s.length : Int) = 64 := by omega
  have x1 := BoxI.new w zeroID_length
  have x2 := BoxI.new (w.alloc (.cells (zeroID.map B8).toArray 30)) zeroID_length
  have x1' := x1.below ((Below.refl _ _).alloc (Nat.le_refl _) (.cells (zeroID.map B8).toArray 30))
  have hB2 : Below w.heap.size w ((w.alloc (.cells (zeroID.map B8).toArray 30)).alloc (.cells (zeroID.map B8).toArray 30)) := ((Below.refl _ w).alloc (Nat.le_refl _) _).alloc (by simp) _
  go_enter Tryd.func38, Tryd.ntmps38
  go_wp2_with (first
    | (refine wpList_alloc_id rfl rfl ?_)
    | (refine wpList_build_id rfl rfl ?_)
    | (refine wpList_store_id rfl (.tmp 4) (.tmp 8) rfl rfl x2 zeroID_length rfl ?_; intro w3 y2 k2; rw [World.size_alloc] at y2 k2)
    | (refine wpList_load_id rfl (.tmp 4) rfl rfl zeroID_length y2.at ?_)
    | (refine wpList_store_id rfl (.tmp 2) (.tmp 12) rfl rfl (x1'.kept k2 (by omega)) zeroID_length rfl ?_; intro w4 y1 k1))
  refine bodyPost_ret (results_id2 rfl _ rfl y1) rfl ?_
  have h3 := hB2.trans (k2.below (fun j _ e => by omega) hB2.size)
  exact ⟨rfl, h3.trans (k1.below (fun j _ e => by omega) h3.size)⟩

theorem BoxI.frozen {W : World} {g k : Nat} {xs : List UInt8} (h : BoxI W g xs) : W.frozen? ⟨g, k, none⟩ = false := frozen_of_row W g k _ _ h.2
theorem parseB_at {s : List UInt8} {k : Nat} {a b : UInt8} (ha : s[2 * k]? = some a) (hb : s[2 * k + 1]? = some b) : parseB (s.drop (2 * k)) = if digV a < 0 ∨ digV b < 0 then none else (parseB (s.drop (2 * (k + 1)))).map (UInt8.ofNat (16 * digV a + digV b).toNat :: ·) := by
  obtain ⟨h1, e1⟩ := List.getElem?_eq_some_iff.1 ha
  obtain ⟨h2, e2⟩ := List.getElem?_eq_some_iff.1 hb
  rw [List.drop_eq_getElem_cons h1, List.drop_eq_getElem_cons h2, e1, e2]
  rfl
theorem digV_lt (c : UInt8) : digV c < 16 ∧ -1 ≤ digV c := by
  have := c.toNat_lt
  unfold digV
  split
  · omega
  · split <;> omega

theorem byte_at {s : List UInt8} {i : Nat} {x : UInt8} (h : s[i]? = some x) (hi : i < ({ data := s.toArray } : ByteArray).size) : (({ data := s.toArray } : ByteArray)[i]'hi) = x := by
  obtain ⟨h1, h2⟩ := List.getElem?_eq_some_iff.1 h
  rw [← h2]
  rfl
theorem put_pre {pre : List UInt8} {k : Nat} {y : UInt8} (hp : pre.length = k) (hk : k < 32) : (pre ++ zeroID.drop k).set k y = (pre ++ [y]) ++ zeroID.drop (k + 1) := by
  rw [List.set_append_right _ _ (by omega), hp, Nat.sub_self]
  have : zeroID.drop k = 0 :: zeroID.drop (k + 1) := by
    have hz : k < zeroID.length := by rw [zeroID_length]; exact hk
    rw [List.drop_eq_getElem_cons hz]
    congr 1
    exact List.getElem_replicate (by simpa using hk)
  rw [this]
  simp
theorem b8_num {n : Int} (h0 : 0 ≤ n) (h1 : n < 256) : B8 (UInt8.ofNat n.toNat) = .int .u8 n := by
  unfold B8
  rw [UInt8.toNat_ofNat', Nat.mod_eq_of_lt (by omega)]
  congr 1
  omega

set_option maxRecDepth 100000 in
set_option maxHeartbeats 2000000 in
theorem rParse_64 (w : World) (s : List UInt8) (hs : s.length = 64) :
    Calls Tryd.prog 38 #[Str s] w fun e W' => e = .returned (.tuple #[IdV (parseR s).2, .int .i64 (parseR s).1]) ∧ Below w.heap.size w W' := by
  have hsz : (⟨s.toArray⟩ : ByteArray).size = s.length := by simp [ByteArray.size]
  have x1 := BoxI.new w zeroID_length
  have x2 := BoxI.new (w.alloc (.cells (zeroID.map B8).toArray 30)) zeroID_length
  have x1' := x1.below ((Below.refl _ _).alloc (Nat.le_refl _) (.cells (zeroID.map B8).toArray 30))
  have hB2 : Below w.heap.size w ((w.alloc (.cells (zeroID.map B8).toArray 30)).alloc (.cells (zeroID.map B8).toArray 30)) := ((Below.refl _ w).alloc (Nat.le_refl _) _).alloc (by simp) _
  obtain ⟨R, hR⟩ : ∃ R, R = parseR s := ⟨_, rfl⟩
  rw [← hR]
  have hRd : R = match parseB s with | some xs => (0, xs) | none => (30, zeroID) := by rw [hR]; unfold parseR; rw [if_pos hs]
  have HR := Lib.hid hRd
  clear hR hRd
  go_enter Tryd.func38, Tryd.ntmps38
  go_wp2_with (first
    | (refine wpList_alloc_id rfl rfl ?_)
    | (refine wpList_build_id rfl rfl ?_)
    | (refine wpList_store_id rfl (.tmp 4) (.tmp 8) rfl rfl x2 zeroID_length rfl ?_; intro w3 y2 k2; rw [World.size_alloc] at y2 k2))
  have y1 := x1'.kept k2 (by omega)
  have hB3 := hB2.trans (k2.below (fun j _ e => by omega) hB2.size)
  clear x1 x2 x1' k2 hB2
  go_loopw [5] (fun i wr => ∃ (k : Nat) (pre : List UInt8), k ≤ 32 ∧ i = .int .i64 k ∧ pre.length = k ∧ parseB s = (parseB (s.drop (2 * k))).map (pre ++ ·) ∧ BoxI wr (w.heap.size + 1) (pre ++ zeroID.drop k) ∧ BoxI wr w.heap.size zeroID ∧ Below w.heap.size w wr) (fun i _ => 32 - (intOf i).toNat)
  case atStart => exact ⟨0, [], by omega, rfl, rfl, by simp, y2, y1, hB3⟩
  case round =>
    clear y1 y2 hB3
    obtain ⟨k, pre, hk, rfl, hpl, hpb, y2, y1, hB⟩ := hrel
    have HP := Lib.hid (And.intro hpl hpb)
    clear hpl hpb
    by_cases hlt : k < 32
    case pos =>
      obtain ⟨a, ha⟩ : ∃ a, s[2 * k]? = some a := ⟨_, List.getElem?_eq_getElem (by omega)⟩
      obtain ⟨b, hb⟩ : ∃ b, s[2 * k + 1]? = some b := ⟨_, List.getElem?_eq_getElem (by omega)⟩
      have HA := Lib.hid (parseB_at ha hb)
      have ea : ∀ h, (({ data := s.toArray } : ByteArray)[2 * k]'h) = a := fun h => byte_at ha h
      have eb : ∀ h, (({ data := s.toArray } : ByteArray)[2 * k + 1]'h) = b := fun h => byte_at hb h
      have da := digV_lt a
      have db := digV_lt b
      clear ha hb
      go_wp2_with fail
      refine (digit_any wr a).mono ?_
      rintro e w4 ⟨rfl, rfl⟩
      go_wp2_with fail
      refine (digit_any wr b).mono ?_
      rintro e w4 ⟨rfl, rfl⟩
      generalize digV a = va at *
      generalize digV b = vb at *
      clear ea eb
      by_cases hbad : va < 0 ∨ vb < 0
      · have HE := Lib.hid (show R = (30, zeroID) by
          have h := HP.out.2
          rw [HA.out, if_pos hbad] at h
          rw [HR.out, h]
          rfl)
        clear HR HA
        by_cases hva : va < 0
        · clear hbad
          go_wp2_with (first
            | (refine wpList_build_id rfl rfl ?_)
            | (refine wpList_store_id rfl (.tmp 2) (.tmp 34) rfl rfl y1 zeroID_length rfl ?_; intro w5 y5 k5))
          refine bodyPost_ret (results_id2 rfl _ rfl y5) rfl ?_
          rw [HE.out]
          exact ⟨rfl, hB.trans (k5.below (fun j _ e => by omega) hB.size)⟩
        · have hvb : vb < 0 := by omega
          clear hbad
          go_wp2_with (first
            | (refine wpList_build_id rfl rfl ?_)
            | (refine wpList_store_id rfl (.tmp 2) (.tmp 34) rfl rfl y1 zeroID_length rfl ?_; intro w5 y5 k5))
          refine bodyPost_ret (results_id2 rfl _ rfl y5) rfl ?_
          rw [HE.out]
          exact ⟨rfl, hB.trans (k5.below (fun j _ e => by omega) hB.size)⟩
      · have hva : 0 ≤ va := by omega
        have hvb : 0 ≤ vb := by omega
        have HE := Lib.hid (show parseB s = (parseB (s.drop (2 * (k + 1)))).map ((pre ++ [UInt8.ofNat (16 * va + vb).toNat]) ++ ·) by
          have h := HP.out.2
          rw [HA.out, if_neg hbad, Option.map_map] at h
          rw [h]
          congr 1
          funext z
          simp)
        clear hbad HA
        have hky : k < (pre ++ zeroID.drop k).length := by rw [y2.1]; exact hlt
        obtain ⟨y0, hy0⟩ : ∃ y, (pre ++ zeroID.drop k)[k]? = some y := ⟨_, List.getElem?_eq_getElem hky⟩
        have cq := y2.at.cell hy0
        rw [Nat.zero_add] at cq
        clear hy0
        have fq := y2.frozen (k := k)
        have hput := y2.put (k := k) (UInt8.ofNat (16 * va + vb).toNat)
        rw [put_pre HP.out.1 hlt, b8_num (by omega) (by omega)] at hput
        have HPUT := Lib.hid hput
        have hy1' := y1.kept ((Kept.refl (· = w.heap.size + 1) wr).setCell (T := (· = w.heap.size + 1)) (p := ⟨w.heap.size + 1, k, none⟩) (fun _ => rfl) (.int .u8 (16 * va + vb))) (by omega)
        have HY1 := Lib.hid hy1'
        clear hput hy1' hky
        go_wp2_with fail
        go_roundw
        case rel => exact ⟨k + 1, pre ++ [UInt8.ofNat (16 * va + vb).toNat], by omega, by go_num, by rw [List.length_append, HP.out.1]; rfl, HE.out, HPUT.out, HY1.out, hB.setCell (p := ⟨w.heap.size + 1, k, none⟩) (by simp) _⟩
        case measure => simp [intOf]; omega
    case neg =>
      obtain rfl : k = 32 := by omega
      have hd : s.drop 64 = [] := List.drop_eq_nil_of_le (by omega)
      have HE := Lib.hid (show R = (0, pre) by
        have h := HP.out.2
        rw [show 2 * 32 = 64 from rfl, hd] at h
        rw [HR.out, h]
        simp [parseB])
      have hz : zeroID.drop 32 = [] := List.drop_eq_nil_of_le (by rw [zeroID_length]; exact Nat.le_refl _)
      rw [hz, List.append_nil] at y2
      have h32 := y2.1
      clear HP hd hz
      go_wp2_with (first
        | (refine wpList_load_id rfl (.tmp 4) rfl rfl h32 y2.at ?_)
        | (refine wpList_store_id rfl (.tmp 2) (.tmp 42) rfl rfl y1 h32 rfl ?_; intro w5 y5 k5))
      refine bodyPost_ret (results_id2 rfl _ rfl y5) rfl ?_
      rw [HE.out]
      exact ⟨rfl, hB.trans (k5.below (fun j _ e => by omega) hB.size)⟩
/-- Parse. -/
theorem rParse_any (w : World) (s : List UInt8) (hm : s.length ≤ 1000000) :
    Calls Tryd.prog 38 #[Str s] w fun e W' => e = .returned (.tuple #[IdV (parseR s).2, .int .i64 (parseR s).1]) ∧ Below w.heap.size w W' := by
  by_cases h : s.length = 64
  · exact rParse_64 w s h
  · have := rParse_long w s h hm
    unfold parseR
    rw [if_neg h]
    exact this
end Go.Proofs.YtldgnkngjdgiaaaDoor
