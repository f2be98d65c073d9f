/- The program's Parse. -/
import Derived.Test.YtcclifnhbncfcaaHashText
import Derived.Test.YtcclifnhbncfcaaHashRefParse
namespace Go.Proofs.Ytcclifnhbncfcaa
open Go.RowKit Go.Great
set_option maxRecDepth 100000

theorem ix_digV (c : UInt8) : Lib.indexByte digs c = digV c := by
  have key : ∀ n : Fin 256, Lib.indexByte digs (UInt8.ofNat n.1) = digV (UInt8.ofNat n.1) := by decide +kernel
  have := key ⟨c.toNat, c.toNat_lt⟩
  simpa using this
theorem or16 {a b : Int} (ha : 0 ≤ a) (ha' : a < 16) (hb : 0 ≤ b) (hb' : b < 16) : bits .or .i64 (a * 16) b = 16 * a + b := by
  have key : ∀ x y : Fin 16, bits .or .i64 ((x.1 : Int) * 16) (y.1 : Int) = 16 * (x.1 : Int) + (y.1 : Int) := by decide +kernel
  have h := key ⟨a.toNat, by omega⟩ ⟨b.toNat, by omega⟩
  simp only [Int.toNat_of_nonneg ha, Int.toNat_of_nonneg hb] at h
  exact h

set_option maxRecDepth 100000 in
set_option maxHeartbeats 1000000 in
theorem hParse_long (w : World) (s : List UInt8) (hs : s.length ≠ 64) :
    Calls Try.prog 8 #[Str s] w fun e W' => e = .returned (.tuple #[IdV zeroID, .int .i64 30]) ∧ Below w.heap.size w W' := by
  have hsz : (⟨s.toArray⟩ : ByteArray).size = s.length := by simp [ByteArray.size]
  have hne : ¬ (s.length : Int) = 64 := by omega
  have x1 := BoxI.new w zeroID_length
  have hB2 : Below w.heap.size w (w.alloc (.cells (zeroID.map B8).toArray 23)) := (Below.refl _ w).alloc (Nat.le_refl _) _
  go_enter Try.func8, Try.ntmps8
  go_wp2_with (first
    | (refine wpList_alloc_id rfl rfl ?_)
    | (refine wpList_build_id rfl rfl ?_)
    | (refine wpList_store_id rfl (.tmp 2) (.tmp 11) rfl rfl x1 zeroID_length rfl ?_; intro w3 y1 k1))
  refine bodyPost_ret (results_id2 rfl _ rfl y1) rfl ?_
  exact ⟨rfl, hB2.trans (k1.below (fun j _ e => by omega) hB2.size)⟩

set_option maxRecDepth 100000 in
set_option maxHeartbeats 2000000 in
theorem hParse_64 (w : World) (s : List UInt8) (hs : s.length = 64) :
    Calls Try.prog 8 #[Str s] w fun e W' => e = .returned (.tuple #[IdV (parseR s).2, .int .i64 (parseR s).1]) ∧ Below w.heap.size w W' := by
  have hsz : (⟨s.toArray⟩ : ByteArray).size = s.length := by simp [ByteArray.size]
  have x1 := BoxI.new w zeroID_length
  have x2 := BoxI.new (w.alloc (.cells (zeroID.map B8).toArray 23)) zeroID_length
  have x1' := x1.below ((Below.refl _ _).alloc (Nat.le_refl _) (.cells (zeroID.map B8).toArray 23))
  have hB2 : Below w.heap.size w ((w.alloc (.cells (zeroID.map B8).toArray 23)).alloc (.cells (zeroID.map B8).toArray 23)) := ((Below.refl _ w).alloc (Nat.le_refl _) _).alloc (by simp) _
  obtain ⟨R, hR⟩ : ∃ R, R = parseR s := ⟨_, rfl⟩
  rw [← hR]
  have hRd : R = match parseB s with | some xs => (0, xs) | none => (30, zeroID) := by rw [hR]; unfold parseR; rw [if_pos hs]; cases parseB s <;> rfl
  have HR := Lib.hid hRd
  clear hR hRd
  rw [World.size_alloc] at x2
  go_enter Try.func8, Try.ntmps8
  go_wp2_with (first
    | (refine wpList_alloc_id rfl rfl ?_))
  generalize (w.alloc (.cells (zeroID.map B8).toArray 23)).alloc (.cells (zeroID.map B8).toArray 23) = w2 at *
  clear x1
  go_loopw [12] (fun i wr => ∃ (k : Nat) (pre : List UInt8), k ≤ 32 ∧ i = .int .i64 k ∧ pre.length = k ∧ parseB s = (parseB (s.drop (2 * k))).map (pre ++ ·) ∧ BoxI wr (w.heap.size + 1) (pre ++ zeroID.drop k) ∧ BoxI wr w.heap.size zeroID ∧ Below w.heap.size w wr) (fun i _ => 32 - (intOf i).toNat)
  case atStart => exact ⟨0, [], by omega, rfl, rfl, by simp, x2, x1', hB2⟩
  case round =>
    clear x2 x1' hB2
    obtain ⟨k, pre, hk, rfl, hpl, hpb, y2, y1, hB⟩ := hrel
    have HP := Lib.hid (And.intro hpl hpb)
    clear hpl hpb
    by_cases hlt : k < 32
    case pos =>
      obtain ⟨a, ha⟩ : ∃ a, s[2 * k]? = some a := ⟨_, List.getElem?_eq_getElem (by omega)⟩
      obtain ⟨b, hb⟩ : ∃ b, s[2 * k + 1]? = some b := ⟨_, List.getElem?_eq_getElem (by omega)⟩
      have HA := Lib.hid (parseB_at ha hb)
      have ea : ∀ h, (({ data := s.toArray } : ByteArray)[2 * k]'h) = a := fun h => byte_at ha h
      have eb : ∀ h, (({ data := s.toArray } : ByteArray)[2 * k + 1]'h) = b := fun h => byte_at hb h
      have da := digV_lt a
      have db := digV_lt b
      have ca := fun W => sIndexByte_any digs a W
      have cb := fun W => sIndexByte_any digs b W
      rw [ix_digV] at ca cb
      clear ha hb
      have k1 : 2 * (k : Int) < 64 := by omega
      have k2 : 2 * (k : Int) + 1 < 64 := by omega
      have k3 : 0 ≤ 2 * (k : Int) := by omega
      have k4 : 0 ≤ 2 * (k : Int) + 1 := by omega
      have t1 : (2 * (k : Int)).toNat = 2 * k := by omega
      have t2 : (2 * (k : Int) + 1).toNat = 2 * k + 1 := by omega
      rw [hs] at hsz
      go_wp2_with fail
      go_quiet (first
        | (go_at_call 34; exact Calls.quiet_of_same (ca _))
        | (go_at_call 34; exact Calls.quiet_of_same (cb _)))
      have y1d : BoxI (wr.drewN nq) w.heap.size zeroID := y1
      have y2d : BoxI (wr.drewN nq) (w.heap.size + 1) (pre ++ zeroID.drop k) := y2
      have hBd : Below w.heap.size w (wr.drewN nq) := hB.trans ⟨rfl, rfl, rfl, Nat.le_refl _, fun _ _ => rfl⟩
      clear y1 y2 hB ca cb
      generalize wr.drewN nq = wq at *
      generalize digV a = va at *
      generalize digV b = vb at *
      clear ea eb
      by_cases hbad : va < 0 ∨ vb < 0
      · have HE := Lib.hid (show R = (30, zeroID) by
          have h := HP.out.2
          rw [HA.out, if_pos hbad] at h
          rw [HR.out, h]
          rfl)
        clear HR HA
        by_cases hva : va < 0
        · clear hbad
          go_wp2_with (first
            | (refine wpList_build_id rfl rfl ?_)
            | (refine wpList_store_id rfl (.tmp 2) (.tmp 32) rfl rfl y1d zeroID_length rfl ?_; intro w5 y5 k5))
          refine bodyPost_ret (results_id2 rfl _ rfl y5) rfl ?_
          rw [HE.out]
          exact ⟨rfl, hBd.trans (k5.below (fun j _ e => by omega) hBd.size)⟩
        · have hvb : vb < 0 := by omega
          clear hbad
          go_wp2_with (first
            | (refine wpList_build_id rfl rfl ?_)
            | (refine wpList_store_id rfl (.tmp 2) (.tmp 32) rfl rfl y1d zeroID_length rfl ?_; intro w5 y5 k5))
          refine bodyPost_ret (results_id2 rfl _ rfl y5) rfl ?_
          rw [HE.out]
          exact ⟨rfl, hBd.trans (k5.below (fun j _ e => by omega) hBd.size)⟩
      · have hva : 0 ≤ va := by omega
        have hvb : 0 ≤ vb := by omega
        have HE := Lib.hid (show parseB s = (parseB (s.drop (2 * (k + 1)))).map ((pre ++ [UInt8.ofNat (16 * va + vb).toNat]) ++ ·) by
          have h := HP.out.2
          rw [HA.out, if_neg hbad, Option.map_map] at h
          rw [h]
          congr 1
          funext z
          simp)
        clear hbad HA
        have hky : k < (pre ++ zeroID.drop k).length := by rw [y2d.1]; exact hlt
        obtain ⟨y0, hy0⟩ : ∃ y, (pre ++ zeroID.drop k)[k]? = some y := ⟨_, List.getElem?_eq_getElem hky⟩
        have cq := y2d.at.cell hy0
        rw [Nat.zero_add] at cq
        clear hy0
        have fq := y2d.frozen (k := k)
        have hput := y2d.put (k := k) (UInt8.ofNat (16 * va + vb).toNat)
        rw [put_pre HP.out.1 hlt, b8_num (by omega) (by omega)] at hput
        have HPUT := Lib.hid hput
        have hy1' := y1d.kept ((Kept.refl (· = w.heap.size + 1) wq).setCell (T := (· = w.heap.size + 1)) (p := ⟨w.heap.size + 1, k, none⟩) (fun _ => rfl) (.int .u8 (16 * va + vb))) (by omega)
        have HY1 := Lib.hid hy1'
        have ho := or16 hva da.1 hvb db.1
        clear hput hy1' hky
        go_wp2_with fail
        go_roundw
        case rel => exact ⟨k + 1, pre ++ [UInt8.ofNat (16 * va + vb).toNat], by omega, by go_num, by rw [List.length_append, HP.out.1]; rfl, HE.out, HPUT.out, HY1.out, hBd.setCell (p := ⟨w.heap.size + 1, k, none⟩) (by simp) _⟩
        case measure => simp [intOf]; omega
    case neg =>
      obtain rfl : k = 32 := by omega
      have hd : s.drop 64 = [] := List.drop_eq_nil_of_le (by omega)
      have HE := Lib.hid (show R = (0, pre) by
        have h := HP.out.2
        rw [show 2 * 32 = 64 from rfl, hd] at h
        rw [HR.out, h]
        simp [parseB])
      have hz : zeroID.drop 32 = [] := List.drop_eq_nil_of_le (by rw [zeroID_length]; exact Nat.le_refl _)
      rw [hz, List.append_nil] at y2
      have h32 := y2.1
      go_wp2_with (first
        | (refine wpList_load_id rfl (.tmp 4) rfl rfl h32 y2.at ?_)
        | (refine wpList_store_id rfl (.tmp 2) (.tmp 41) rfl rfl y1 h32 rfl ?_; intro w5 y5 k5))
      refine bodyPost_ret (results_id2 rfl _ rfl y5) rfl ?_
      rw [HE.out]
      exact ⟨rfl, hB.trans (k5.below (fun j _ e => by omega) hB.size)⟩
theorem hParse_any (w : World) (s : List UInt8) :
    Calls Try.prog 8 #[Str s] w fun e W' => e = .returned (.tuple #[IdV (parseR s).2, .int .i64 (parseR s).1]) ∧ Below w.heap.size w W' := by
  by_cases hs : s.length = 64
  · exact hParse_64 w s hs
  · have h := hParse_long w s hs
    unfold parseR
    rw [if_neg hs]
    exact h
end Go.Proofs.Ytcclifnhbncfcaa
