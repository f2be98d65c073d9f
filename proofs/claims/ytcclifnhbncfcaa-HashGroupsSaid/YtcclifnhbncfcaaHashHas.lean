/- The program's Has, Less. -/
import Derived.Test.YtcclifnhbncfcaaHashSearch
namespace Go.Proofs.Ytcclifnhbncfcaa
open Go.RowKit Go.Great
set_option maxRecDepth 100000

set_option maxRecDepth 100000 in
set_option maxHeartbeats 1000000 in
/-- Has. -/
theorem hHas_any (w : World) (v : Value) (l : List (List UInt8)) (hl : Is w v l) (hm : l.length ≤ 1000000) (hs : SS l) (id : List UInt8) (hid : id.length = 32) :
    Calls Try.prog 13 #[v, IdV id] w fun e W' => e = .returned (.bool (decide (id ∈ l))) ∧ Below w.heap.size w W' := by
  have b1 := IdAt.box w id 23
  have hB0 : Below w.heap.size w (w.alloc (.cells (id.map B8).toArray 23)) := (Below.refl _ w).alloc (Nat.le_refl _) _
  have hc := idSearch_any _ v l (hl.below hB0) hm hs id hid
  obtain ⟨A, c, rfl, _⟩ := hl.form
  clear hl hs
  go_enter Try.func13, Try.ntmps13
  go_wp2_with (refine wpList_load_id rfl (.tmp 3) rfl rfl hid b1 ?_)
  refine hc.mono ?_
  rintro e w3 ⟨n, rfl, hb3⟩
  go_wp2
  go_ret
  exact ⟨rfl, hB0.trans (hb3.mono hB0.size)⟩

set_option maxRecDepth 100000 in
set_option maxHeartbeats 2000000 in
theorem hLess_form (w : World) (A B : Option Addr) (c d : Nat) (l m : List (List UInt8)) (hl : Is w (.slice A l.length c) l) (hm : Is w (.slice B m.length d) m) (hll : l.length ≤ 1000) (hml : m.length ≤ 1000) (hs : SS m) :
    Calls Try.prog 14 #[.slice A l.length c, .slice B m.length d] w fun e W' => ∃ v', e = .returned v' ∧ RowI W' w.heap.size v' (lessI l m) ∧ Below w.heap.size w W' := by
  have HSS := Lib.hid hs
  clear hs
  go_enter Try.func14, Try.ntmps14
  go_wp2_with fail
  go_loopw [5, 10] (fun v i wr => ∃ k : Nat, k ≤ l.length ∧ i = .int .i64 k ∧ RowI wr w.heap.size v (lessI (l.take k) m) ∧ Below w.heap.size w wr) (fun _ i _ => l.length - (intOf i).toNat)
  case atStart => exact ⟨0, by omega, rfl, RowI.nil _ _, Below.refl _ _⟩
  case round =>
    obtain ⟨k, hk, rfl, hrow, hB⟩ := hrel
    by_cases hlt : k < l.length
    case pos =>
      obtain ⟨x, hxk⟩ : ∃ x, l[k]? = some x := ⟨_, List.getElem?_eq_getElem hlt⟩
      obtain ⟨hx32, b, off, rfl, hat⟩ := hl.at hxk
      have HS := Lib.hid (lessI_succ (m := m) hxk)
      have hat1 := hat.below hB
      have hll2 := lessI_le (l.take k) m
      rw [List.length_take, Nat.min_eq_left hk] at hll2
      obtain ⟨Ar, cr, rfl, hcr⟩ := hrow.slice
      have HROW := Lib.hid hrow
      have n0 := BoxI.new wr zeroID_length
      have bk : (k : Int) < (l.length : Int) := by omega
      clear hxk hrow
      go_wp2_with (first
        | (refine wpList_load_id rfl (.tmp 12) rfl rfl hx32 hat1 ?_)
        | (refine wpList_alloc_id rfl rfl ?_)
        | (refine wpList_store_id rfl (.tmp 7) (.tmp 13) rfl rfl n0 hx32 rfl ?_; intro w1 y1 k1)
        | (refine wpList_load_id rfl (.tmp 7) rfl rfl hx32 y1.at ?_))
      have B1 : Below wr.heap.size wr w1 := ((Below.refl _ wr).alloc (Nat.le_refl _) _).trans (k1.below (fun j _ e => by omega) (by simp))
      have hB1 := hB.trans (B1.mono hB.size)
      refine (hHas_any w1 _ m (hm.below hB1) (by omega) HSS.out x hx32).mono ?_
      rintro e w2 ⟨rfl, h2⟩
      have hB2 := hB1.trans (h2.mono hB1.size)
      have y2 := (y1.below h2).at
      have hrow2 := (HROW.out.below B1).below h2
      clear n0 y1 k1 hat1
      by_cases hxm : x ∈ m
      · rw [decide_eq_true hxm]
        have HS2 := Lib.hid (show lessI (l.take (k + 1)) m = lessI (l.take k) m by rw [HS.out, if_pos hxm, List.append_nil])
        have HR2 := Lib.hid hrow2
        clear HS hxm hrow2
        go_wp2_with fail
        go_roundw
        case rel => exact ⟨k + 1, by omega, by go_num, by rw [HS2.out]; exact HR2.out, hB2⟩
        case measure => simp [intOf]; omega
      · rw [decide_eq_false hxm]
        have HS2 := Lib.hid (show lessI (l.take (k + 1)) m = lessI (l.take k) m ++ [x] by rw [HS.out, if_neg hxm])
        clear HS hxm
        have hone := Is.one w2 hx32 23
        have hrow3 := hrow2.below ((Below.refl _ w2).alloc (Nat.le_refl _) (.cells (x.map B8).toArray 23))
        have hB3 := hB2.alloc hB2.size (.cells (x.map B8).toArray 23)
        go_wp2_with (first
          | (refine wpList_load_id rfl (.tmp 7) rfl rfl hx32 y2 ?_)
          | (refine wpList_one_id rfl (.tmp 19) rfl hx32 rfl ?_)
          | (at_builtin; refine wpList_append_is rfl (.tmp 18) (.tmp 20) rfl w.heap.size _ (lessI (l.take k) m) rfl hrow3 _ [x] rfl hone (by simp; omega) hB3.size ?_; intro v4 w4 hown4 hg4 hv4))
        have hB4 := hB3.trans ((Kept.of_grown hg4).below (fun j _ e => (hrow3.own.lt j e).1) hB3.size)
        go_roundw
        case rel => exact ⟨k + 1, by omega, by go_num, by rw [HS2.out]; exact hown4, hB4⟩
        case measure => simp [intOf]; omega
    case neg =>
      obtain rfl : k = l.length := by omega
      rw [List.take_length] at hrow
      obtain ⟨Ar, cr, rfl, hcr⟩ := hrow.slice
      go_wp2
      go_ret
      exact ⟨_, rfl, hrow, hB⟩
/-- Less. -/
theorem hLess_any (w : World) (v u : Value) (l m : List (List UInt8)) (hl : Is w v l) (hm : Is w u m) (hll : l.length ≤ 1000) (hml : m.length ≤ 1000) (hs : SS m) :
    Calls Try.prog 14 #[v, u] w fun e W' => ∃ v', e = .returned v' ∧ RowI W' w.heap.size v' (lessI l m) ∧ Below w.heap.size w W' := by
  obtain ⟨A, c, rfl, _⟩ := hl.form
  obtain ⟨B, d, rfl, _⟩ := hm.form
  exact hLess_form w A B c d l m hl hm hll hml hs
end Go.Proofs.Ytcclifnhbncfcaa
