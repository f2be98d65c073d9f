/- The walk of LebBack. -/
import Derived.Test.YtgapabbhjocflaaLebOps
namespace Go.Proofs.Ytgapabbhjocflaa
open Go.RowKit

set_option maxRecDepth 100000 in
set_option maxHeartbeats 1000000 in
theorem back_some (b off cap : Nat) (l : List OpV) (w : World) (hl : OpsAt w b off l) (hn : 0 < l.length) (h100 : l.length ≤ 100) (ht : total l ≤ 20000) :
    Calls Try.prog 6 #[.slice (some ⟨b, off, none⟩) l.length cap] w fun e W' => e = .returned (.bool true) ∧ Below w.heap.size w W' := by
  go_enter Try.func6, Try.ntmps6
  go_wp2_with fail
  refine (alive_any _).mono ?_
  rintro e w1 ⟨rfl, h1⟩
  go_wp2_with fail
  refine (great_any b off cap l w1 (fun i o ho => (hl i o ho).below h1) hn (by omega)).mono ?_
  rintro e w2 ⟨rfl, rfl⟩
  have hg : (decide (100 < l.length) || decide (20000 < total l)) = false := by simp; omega
  rw [hg]
  clear hg
  have b0 := Boxed.new w1 26 (.slice none 0 0)
  have hat0 : SinkAt (w1.alloc (.cells #[.slice none 0 0] 26)) w.heap.size w1.heap.size (.slice none 0 0) (wrote (l.take 0)) := ⟨b0, World.ownsRow_nil _ _ _ _⟩
  have hB2 : Below w.heap.size w (w1.alloc (.cells #[.slice none 0 0] 26)) := h1.alloc h1.size _
  have hg1 : w.heap.size ≤ w1.heap.size := h1.size
  go_wp2_with fail
  go_loopw [26] (fun i wr => ∃ (k : Nat) (v : Value), k ≤ l.length ∧ i = .int .i64 k ∧ SinkAt wr w.heap.size w1.heap.size v (wrote (l.take k)) ∧ Below w.heap.size w wr) (fun i _ => l.length - (intOf i).toNat)
  case atStart => exact ⟨0, _, Nat.zero_le _, rfl, hat0, hB2⟩
  case round =>
    obtain ⟨k, v, hk, rfl, hat, hB⟩ := hrel
    by_cases hlt : k < l.length
    · obtain ⟨o, ho⟩ : ∃ o, l[k]? = some o := ⟨l[k], List.getElem?_eq_getElem hlt⟩
      have hop := (hl k o ho).below hB
      have c0 := hop.c0
      have c1 := hop.c1
      have c2 := hop.c2
      have c3 := hop.c3
      obtain ⟨A, c, hv, hc⟩ := hop.bytes.form
      rw [hv] at c3
      have hapart : ∀ W' : World, Below w.heap.size w W' → ∀ v', W'.ownsRow w.heap.size 5 1 v' (wrote (l.take k)).length ((wrote (l.take k)).map B8) → o.bs ≠ [] → ∀ j, (Value.slice A o.bs.length c).ownBlock = some j → j ≠ w1.heap.size ∧ v'.ownBlock ≠ some j := fun W' _ v' hr hne j hj => by
        have h3 := (hl k o ho).bytes.lt hne j (hv ▸ hj)
        exact ⟨by omega, fun e => by have := (hr.lt j e).1; omega⟩
      have hwl := wrote_le hl k hk
      have htm := total_mono l k
      have hsh : o.bs.length ≤ total l := by have h1 := total_take_succ l k o ho; have h2 := total_mono l (k + 1); omega
      have HV := Lib.hid hv
      have HAP := Lib.hid hapart
      have HO := Lib.hid ho
      clear hv hapart ho
      have hbytes := hop.bytes
      rw [HV.out] at hbytes
      rcases (by omega : o.kind = 0 ∨ o.kind = 1 ∨ o.kind = 2 ∨ (o.kind ≠ 0 ∧ o.kind ≠ 1 ∧ o.kind ≠ 2)) with hk0 | hk0 | hk0 | ⟨hk0, hk1, hk2⟩
      · have hk0' : (o.kind == 0) = true := by simp [hk0]
        have hob : opBytes o = lebB o.n := by simp [opBytes, hk0]
        have HOB := Lib.hid hob
        clear hob hk0
        go_wp2_with fail
        refine (SinkNumber_any _ o.n hop.small _ v _ w.heap.size (by have := hB.size; simp; omega) (hat.alloc _) (by omega)).mono ?_
        rintro e w3 ⟨rfl, h3⟩
        obtain ⟨v3, hat3, hB3⟩ := h3.step (hB.alloc hB.size _) (by have := hB.size; simp; omega) hg1 (hat.alloc _)
        clear h3
        go_wp2_with fail
        go_roundw
        case rel => exact ⟨k + 1, v3, by omega, by go_num, by rw [wrote_take_succ l k o HO.out, HOB.out]; exact hat3, hB3⟩
        case measure => simp [intOf]; omega
      · have hk0' : (o.kind == 0) = false := by simp [hk0]
        have hk1' : (o.kind == 1) = true := by simp [hk0]
        have hob : opBytes o = lebB o.bs.length ++ o.bs := by simp [opBytes, hk0]
        have HOB := Lib.hid hob
        clear hob hk0
        go_wp2_with fail
        refine (SinkBytes_any _ _ v _ w.heap.size (by have := hB.size; simp; omega) (hat.alloc _) _ o.bs (((Kept.refl (fun _ => False) _).alloc _).bs hbytes (fun _ _ h => h)) (HAP.out wr hB v hat.row) (by omega)).mono ?_
        rintro e w3 ⟨rfl, h3⟩
        obtain ⟨v3, hat3, hB3⟩ := h3.step (hB.alloc hB.size _) (by have := hB.size; simp; omega) hg1 (hat.alloc _)
        clear h3
        go_wp2_with fail
        go_roundw
        case rel => exact ⟨k + 1, v3, by omega, by go_num, by rw [wrote_take_succ l k o HO.out, HOB.out]; exact hat3, hB3⟩
        case measure => simp [intOf]; omega
      · have hk0' : (o.kind == 0) = false := by simp [hk0]
        have hk1' : (o.kind == 1) = false := by simp [hk0]
        have hk2' : (o.kind == 2) = true := by simp [hk0]
        have hob : opBytes o = o.bs := by simp [opBytes, hk0]
        have HOB := Lib.hid hob
        clear hob hk0
        go_wp2_with fail
        refine (SinkRaw_any _ _ v _ w.heap.size (by have := hB.size; simp; omega) (hat.alloc _) _ o.bs (((Kept.refl (fun _ => False) _).alloc _).bs hbytes (fun _ _ h => h)) (by omega)).mono ?_
        rintro e w3 ⟨rfl, h3⟩
        obtain ⟨v3, hat3, hB3⟩ := h3.step (hB.alloc hB.size _) (by have := hB.size; simp; omega) hg1 (hat.alloc _)
        clear h3
        go_wp2_with fail
        go_roundw
        case rel => exact ⟨k + 1, v3, by omega, by go_num, by rw [wrote_take_succ l k o HO.out, HOB.out]; exact hat3, hB3⟩
        case measure => simp [intOf]; omega
      · have hk0' : (o.kind == 0) = false := by simp [hk0]
        have hk1' : (o.kind == 1) = false := by simp [hk1]
        have hk2' : (o.kind == 2) = false := by simp [hk2]
        have hob : opBytes o = [] := by simp [opBytes, hk0, hk1, hk2]
        have HOB := Lib.hid hob
        clear hob hk0 hk1 hk2
        go_wp2_with fail
        go_roundw
        case rel => exact ⟨k + 1, v, by omega, by go_num, by rw [wrote_take_succ l k o HO.out, HOB.out, List.append_nil]; exact hat.alloc _, hB.alloc hB.size _⟩
        case measure => simp [intOf]; omega
    · obtain rfl : k = l.length := by omega
      rw [List.take_length] at hat
      have hwl : (wrote l).length ≤ 21000 := by have h1 := wrote_le hl l.length (Nat.le_refl _); rw [List.take_length] at h1; omega
      clear hat0 b0 hB2 h1
      go_wp2_with fail
      refine (SinkAll_any _ _ v _ _ hat (by omega)).mono ?_
      rintro e w4 ⟨r4, rfl, hrow4, hb4⟩
      have hB4 := hB.trans (hb4.mono hB.size)
      obtain ⟨A4, n4, c4, rfl⟩ := owns_slice hrow4
      go_wp2_with fail
      refine (From_any _ _ (wrote l) (Bs.of_owns hrow4) (by omega)).mono ?_
      rintro e w5 ⟨g5, v5, rfl, hat5, hg5, _, hb5⟩
      have hB5 := hB4.trans (hb5.mono hB4.size)
      have hg5' : w.heap.size ≤ g5 := Nat.le_trans hB4.size hg5
      clear hb4 hb5 hB hB4 hg5 hrow4 hat
      go_wp2_with fail
      go_loopw [52] (fun i wr => ∃ (k : Nat) (v : Value), k ≤ l.length ∧ i = .int .i64 k ∧ SourceAt wr g5 v (wrote (l.drop k)) ∧ Below w.heap.size w wr) (fun i _ => l.length - (intOf i).toNat)
      case atStart => exact ⟨0, _, Nat.zero_le _, rfl, by simpa using hat5, hB5⟩
      case round =>
        clear hat5 hB5
        obtain ⟨k, v, hk, rfl, hat, hB⟩ := hrel
        have hwd : (wrote (l.drop k)).length ≤ 21000 := by
          have h1 : wrote l = wrote (l.take k) ++ wrote (l.drop k) := by unfold wrote; rw [← List.flatMap_append, List.take_append_drop]
          have h2 := congrArg List.length h1
          rw [List.length_append] at h2
          omega
        by_cases hlt : k < l.length
        · obtain ⟨o, ho⟩ : ∃ o, l[k]? = some o := ⟨l[k], List.getElem?_eq_getElem hlt⟩
          have hop := (hl k o ho).below hB
          have c0 := hop.c0
          have c1 := hop.c1
          have c2 := hop.c2
          have c3 := hop.c3
          obtain ⟨A, c, hv, hc⟩ := hop.bytes.form
          rw [hv] at c3
          have hwd2 := wrote_drop l k o ho
          have hsh : o.bs.length ≤ total l := by have h1 := total_take_succ l k o ho; have h2 := total_mono l (k + 1); omega
          have hb0 := (hl k o ho).bytes
          rw [hv] at hb0
          have HO := Lib.hid ho
          have HW := Lib.hid hwd2
          clear hv ho hwd2
          have hat' : SourceAt (wr.alloc (.cells #[.int .i64 o.kind, .int .i64 o.m, .int .u64 o.n, .slice A o.bs.length c] 30)) g5 v (wrote (l.drop k)) := hat.kept (T := fun _ => False) ((Kept.refl _ _).alloc _) (fun h => h) (fun _ _ h => h)
          have hbytes' : ∀ W', Below w.heap.size w W' → Bs W' (.slice A o.bs.length c) o.bs := fun W' hW' => hb0.below hW'
          have hg5lt := hat.box.lt
          have hk2 : ∀ (w6 : World), Kept (fun j => j = g5) (wr.alloc (.cells #[.int .i64 o.kind, .int .i64 o.m, .int .u64 o.n, .slice A o.bs.length c] 30)) w6 → w6.cell? ⟨wr.heap.size, 2, none⟩ = some (.int .u64 o.n) ∧ w6.cell? ⟨wr.heap.size, 3, none⟩ = some (.slice A o.bs.length c) ∧ Below w.heap.size w w6 := fun w6 h => by
            refine ⟨(h.cell (p := ⟨wr.heap.size, 2, none⟩) (by simp) (by simp; omega)).trans (by simp), (h.cell (p := ⟨wr.heap.size, 3, none⟩) (by simp) (by simp; omega)).trans (by simp), ?_⟩
            have hx := hB.alloc hB.size (.cells #[.int .i64 o.kind, .int .i64 o.m, .int .u64 o.n, .slice A o.bs.length c] 30)
            exact hx.trans (h.below (fun j _ t => by omega) hx.size)
          have HK := Lib.hid hk2
          have HBY := Lib.hid hbytes'
          clear hk2 hbytes' hb0
          rcases (by omega : o.kind = 0 ∨ o.kind = 1 ∨ o.kind = 2 ∨ (o.kind ≠ 0 ∧ o.kind ≠ 1 ∧ o.kind ≠ 2)) with hk0 | hk0 | hk0 | ⟨hk0, hk1, hk2⟩
          · have hk0' : (o.kind == 0) = true := by simp [hk0]
            have hob : opBytes o = lebB o.n := by simp [opBytes, hk0]
            have HOB := Lib.hid hob
            clear hob hk0
            go_wp2_with fail
            refine (SrcNumber_any _ g5 v _ hat' (by omega) o.n).mono ?_
            rw [HW.out, HOB.out, num_back hop.small]
            rintro e w6 ⟨rfl, v6, hat6, hk6, _⟩
            obtain ⟨q2, q3, hB6⟩ := HK.out w6 hk6
            dsimp only at hat6 ⊢
            clear hat' hk6 c0 c1 c2 c3
            go_wp2_with fail
            go_roundw
            case rel => exact ⟨k + 1, v6, by omega, by go_num, hat6, hB6⟩
            case measure => simp [intOf]; omega
          · have hk0' : (o.kind == 0) = false := by simp [hk0]
            have hk1' : (o.kind == 1) = true := by simp [hk0]
            have hob : opBytes o = lebB o.bs.length ++ o.bs := by simp [opBytes, hk0]
            have HOB := Lib.hid hob
            clear hob hk0
            go_wp2_with fail
            refine (SrcBytes_any _ g5 v _ hat' (by omega) o.bs.length (by omega)).mono ?_
            rw [HW.out, HOB.out, bytes_back o.bs _ (by omega)]
            rintro e w6 ⟨r6, rfl, hrow6, v6, hat6, hk6, _⟩
            obtain ⟨q2, q3, hB6⟩ := HK.out w6 hk6
            dsimp only at hat6 hrow6 ⊢
            have hcv1 := run_string_bs (P := Try.prog) w6 24 9 5 Try.underlying24 Try.underlying5 Try.underlying9 (Bs.of_owns hrow6)
            have hcv2 := run_string_bs (P := Try.prog) w6 24 9 5 Try.underlying24 Try.underlying5 Try.underlying9 (HBY.out w6 hB6)
            obtain ⟨A6, n6, c6, rfl⟩ := owns_slice hrow6
            clear hat' hk6 c0 c1 c2 c3
            go_wp2_with fail
            go_roundw
            case rel => exact ⟨k + 1, v6, by omega, by go_num, hat6, hB6⟩
            case measure => simp [intOf]; omega
          · have hk0' : (o.kind == 0) = false := by simp [hk0]
            have hk1' : (o.kind == 1) = false := by simp [hk0]
            have hk2' : (o.kind == 2) = true := by simp [hk0]
            have hob : opBytes o = o.bs := by simp [opBytes, hk0]
            have HOB := Lib.hid hob
            clear hob hk0
            go_wp2_with fail
            refine (SrcRaw_any _ g5 v _ hat' (by omega) o.bs.length).mono ?_
            rw [HW.out, HOB.out, raw_back o.bs _]
            rintro e w6 ⟨r6, rfl, hrow6, v6, hat6, hk6, _⟩
            obtain ⟨q2, q3, hB6⟩ := HK.out w6 hk6
            dsimp only at hat6 hrow6 ⊢
            have hcv1 := run_string_bs (P := Try.prog) w6 24 9 5 Try.underlying24 Try.underlying5 Try.underlying9 (Bs.of_owns hrow6)
            have hcv2 := run_string_bs (P := Try.prog) w6 24 9 5 Try.underlying24 Try.underlying5 Try.underlying9 (HBY.out w6 hB6)
            obtain ⟨A6, n6, c6, rfl⟩ := owns_slice hrow6
            clear hat' hk6 c0 c1 c2 c3
            go_wp2_with fail
            go_roundw
            case rel => exact ⟨k + 1, v6, by omega, by go_num, hat6, hB6⟩
            case measure => simp [intOf]; omega
          · have hk0' : (o.kind == 0) = false := by simp [hk0]
            have hk1' : (o.kind == 1) = false := by simp [hk1]
            have hk2' : (o.kind == 2) = false := by simp [hk2]
            have hob : opBytes o = [] := by simp [opBytes, hk0, hk1, hk2]
            have HOB := Lib.hid hob
            clear hob hk0 hk1 hk2
            have HAT := Lib.hid hat'
            clear hat'
            go_wp2_with fail
            go_roundw
            case rel => exact ⟨k + 1, v, by omega, by go_num, by have h := HAT.out; rw [HW.out, HOB.out, List.nil_append] at h; exact h, hB.alloc hB.size _⟩
            case measure => simp [intOf]; omega
        · obtain rfl : k = l.length := by omega
          have hnil : wrote (l.drop l.length) = [] := by simp [wrote]
          rw [hnil] at hat
          clear hnil hwd
          go_wp2_with fail
          refine (SrcEnd_any _ g5 v [] hat).mono ?_
          rintro e w6 ⟨rfl, rfl⟩
          rw [if_pos rfl]
          go_wp2_with fail
          refine (SrcLeft_any _ g5 v [] hat).mono ?_
          rintro e w6 ⟨rfl, rfl⟩
          go_wp2
          go_ret
          exact ⟨rfl, hB⟩

set_option maxHeartbeats 400000 in
theorem back_great (A : Option Addr) (n cap : Nat) (w : World) (hg : ∀ w', Below w.heap.size w w' → Calls Try.prog 10 #[.slice A n cap] w' fun e W' => e = .returned (.bool true) ∧ w' = W') :
    Calls Try.prog 6 #[.slice A n cap] w fun e W' => e = .returned (.bool true) ∧ Below w.heap.size w W' := by
  have HG := Lib.hid hg
  clear hg
  go_enter Try.func6, Try.ntmps6
  go_wp2_with fail
  refine (alive_any _).mono ?_
  rintro e w1 ⟨rfl, h1⟩
  go_wp2_with fail
  refine (HG.out w1 h1).mono ?_
  rintro e w2 ⟨rfl, rfl⟩
  go_wp2
  go_ret
  exact ⟨rfl, h1⟩

set_option maxRecDepth 100000 in
set_option maxHeartbeats 1000000 in
theorem back_none (A : Option Addr) (cap : Nat) (w : World) :
    Calls Try.prog 6 #[.slice A 0 cap] w fun e W' => e = .returned (.bool true) ∧ Below w.heap.size w W' := by
  go_enter Try.func6, Try.ntmps6
  go_wp2_with fail
  refine (alive_any _).mono ?_
  rintro e w1 ⟨rfl, h1⟩
  go_wp2_with fail
  refine (great_nil A cap w1).mono ?_
  rintro e w2 ⟨rfl, rfl⟩
  have b0 := Boxed.new w1 26 (.slice none 0 0)
  have hat0 : SinkAt (w1.alloc (.cells #[.slice none 0 0] 26)) w.heap.size w1.heap.size (.slice none 0 0) [] := ⟨b0, World.ownsRow_nil _ _ _ _⟩
  have hB2 : Below w.heap.size w (w1.alloc (.cells #[.slice none 0 0] 26)) := h1.alloc h1.size _
  have hg1 : w.heap.size ≤ w1.heap.size := h1.size
  go_wp2_with fail
  go_loopw [26] (fun i wr => i = .int .i64 0 ∧ SinkAt wr w.heap.size w1.heap.size (.slice none 0 0) [] ∧ Below w.heap.size w wr) (fun _ _ => 0)
  case atStart => exact ⟨rfl, hat0, hB2⟩
  case round =>
    obtain ⟨rfl, hat, hB⟩ := hrel
    clear hat0 b0 hB2 h1
    go_wp2_with fail
    refine (SinkAll_any _ _ _ _ _ hat (by simp)).mono ?_
    rintro e w4 ⟨r4, rfl, hrow4, hb4⟩
    have hB4 := hB.trans (hb4.mono hB.size)
    obtain ⟨A4, n4, c4, rfl⟩ := owns_slice hrow4
    go_wp2_with fail
    refine (From_any _ _ [] (Bs.of_owns hrow4) (by simp)).mono ?_
    rintro e w5 ⟨g5, v5, rfl, hat5, hg5, _, hb5⟩
    have hB5 := hB4.trans (hb5.mono hB4.size)
    clear hb4 hb5 hB hB4 hg5 hrow4 hat
    go_wp2_with fail
    go_loopw [52] (fun i wr => i = .int .i64 0 ∧ SourceAt wr g5 v5 [] ∧ Below w.heap.size w wr) (fun _ _ => 0)
    case atStart => exact ⟨rfl, hat5, hB5⟩
    case round =>
      clear hat5 hB5
      obtain ⟨rfl, hat, hB⟩ := hrel
      go_wp2_with fail
      refine (SrcEnd_any _ g5 v5 [] hat).mono ?_
      rintro e w6 ⟨rfl, rfl⟩
      rw [if_pos rfl]
      go_wp2_with fail
      refine (SrcLeft_any _ g5 v5 [] hat).mono ?_
      rintro e w6 ⟨rfl, rfl⟩
      go_wp2
      go_ret
      exact ⟨rfl, hB⟩

/-- For all calls. -/
theorem back_any (b off cap : Nat) (l : List OpV) (w : World) (hl : OpsAt w b off l) (hn : 0 < l.length) (hm : l.length ≤ 9223372036854775807) :
    Calls Try.prog 6 #[.slice (some ⟨b, off, none⟩) l.length cap] w fun e W' => e = .returned (.bool true) ∧ Below w.heap.size w W' := by
  by_cases h1 : l.length ≤ 100 ∧ total l ≤ 20000
  · exact back_some b off cap l w hl hn h1.1 h1.2
  · refine back_great _ _ _ w fun w' hb => ?_
    have h := great_any b off cap l w' (fun i o ho => (hl i o ho).below hb) hn hm
    have hg : (decide (100 < l.length) || decide (20000 < total l)) = true := by simp; omega
    rw [hg] at h
    exact h
end Go.Proofs.Ytgapabbhjocflaa
