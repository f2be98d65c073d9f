/- The program's Check, Within, Parts. -/
import Derived.Test.YtldgnkngjdgiaaaDoorRefnPBreaks
namespace Go.Proofs.YtldgnkngjdgiaaaDoor
open Go.RowKit

set_option maxHeartbeats 400000 in
theorem pCheck_any (w : World) (s : List UInt8) (hm : s.length ≤ 100000) (hM : Mx w) :
    Calls Tryd.prog 11 #[Str s] w fun e W' => e = .returned (.int .i64 (checkN s : Nat)) ∧ Below w.heap.size w W' := by
  have hb := pBreaks_any w s hm hM
  obtain ⟨R, hR⟩ : ∃ R, R = checkN s := ⟨_, rfl⟩
  rw [← hR]
  unfold checkN at hR
  generalize breaksB s = n at *
  have HR := Lib.hid hR
  clear hR hM
  go_enter Tryd.func11, Tryd.ntmps11
  go_wp2_with fail
  refine hb.mono ?_
  rintro e w1 ⟨rfl, h1⟩
  clear hb
  by_cases h0 : n = 0
  · have HE := Lib.hid (show R = 0 by rw [HR.out, if_pos h0])
    clear HR
    subst h0
    go_wp2
    go_ret
    exact ⟨by rw [HE.out]; rfl, h1⟩
  · have h0' : ¬ (n : Int) = 0 := by omega
    have HE := Lib.hid (show R = 40 by rw [HR.out, if_neg h0])
    clear HR h0
    go_wp2
    go_ret
    exact ⟨by rw [HE.out]; rfl, h1⟩

theorem prefix_slash (s t : List UInt8) : Lib.hasPrefix s (t ++ [47]) = (decide (t.length < s.length) && (s.take t.length == t) && (s[t.length]? == some 47)) := by
  unfold Lib.hasPrefix
  rw [Bool.eq_iff_iff, List.isPrefixOf_iff_prefix, Bool.and_eq_true, Bool.and_eq_true, decide_eq_true_eq, beq_iff_eq, beq_iff_eq]
  constructor
  · rintro ⟨r, rfl⟩
    refine ⟨⟨by simp, by simp⟩, by simp⟩
  · rintro ⟨⟨h1, h2⟩, h3⟩
    refine ⟨s.drop (t.length + 1), ?_⟩
    have h4 : s.take (t.length + 1) = t ++ [47] := by rw [List.take_add_one, h2, h3]; rfl
    rw [← h4, List.take_append_drop]
theorem cat_slash (t : List UInt8) : (⟨t.toArray⟩ : ByteArray) ++ ⟨#[47]⟩ = ⟨(t ++ [47]).toArray⟩ := by
  rw [str_cat]; simp

set_option maxRecDepth 100000 in
set_option maxHeartbeats 1000000 in
theorem pWithin_any (w : World) (s t : List UInt8) (hs : s.length ≤ 1000) (ht : t.length ≤ 1000) (hM : Mx w) :
    Calls Tryd.prog 16 #[Str s, Str t] w fun e W' => e = .returned (.bool (withinB s t)) ∧ Below w.heap.size w W' := by
  have hsz : (⟨s.toArray⟩ : ByteArray).size = s.length := by simp [ByteArray.size]
  have htz : (⟨t.toArray⟩ : ByteArray).size = t.length := by simp [ByteArray.size]
  have hc1 := pCheck_any w s (by omega) hM
  have hc2 := fun W (h : Mx W) => pCheck_any W t (by omega) h
  have HM := Lib.hid hM
  clear hM
  obtain ⟨R, hR⟩ : ∃ R, R = withinB s t := ⟨_, rfl⟩
  rw [← hR]
  have HR := Lib.hid hR
  clear hR
  go_enter Tryd.func16, Tryd.ntmps16
  go_wp2_with fail
  refine hc1.mono ?_
  rintro e w1 ⟨rfl, h1⟩
  clear hc1
  by_cases b1 : breaksB s = 0
  case neg =>
    have hc : checkN s = 40 := by unfold checkN; rw [if_neg b1]
    have HE := Lib.hid (show R = false by rw [HR.out, withinB, decide_eq_false (fun h => b1 h.1)]; rfl)
    rw [hc]
    clear hc2 b1 hc
    go_wp2
    go_ret
    exact ⟨by rw [HE.out]; rfl, h1⟩
  case pos =>
  rw [checkN_zero.2 b1]
  have HB1 := Lib.hid b1
  clear b1
  go_wp2_with fail
  refine (hc2 w1 (HM.out.below h1)).mono ?_
  rintro e w2 ⟨rfl, h2⟩
  have h12 := h1.trans (h2.mono h1.size)
  clear hc2
  by_cases b2 : breaksB t = 0
  case neg =>
    have hc : checkN t = 40 := by unfold checkN; rw [if_neg b2]
    have HE := Lib.hid (show R = false by rw [HR.out, withinB, decide_eq_false (fun h => b2 h.2)]; rfl)
    rw [hc]
    clear b2 hc
    go_wp2
    go_ret
    exact ⟨by rw [HE.out]; rfl, h12⟩
  case pos =>
  rw [checkN_zero.2 b2]
  have HD := Lib.hid (show R = (s == t || Lib.hasPrefix s (t ++ [47])) by rw [HR.out, withinB, decide_eq_true ⟨HB1.out, b2⟩, prefix_slash]; rfl)
  clear b2 HB1 HR
  have t1 := str_list s
  have t2 := str_list t
  have hP := fun W => Tryd.strings_HasPrefix ⟨s.toArray⟩ ⟨(t ++ [47]).toArray⟩ W
  have hcat := cat_slash t
  cases hst : (s == t) with
  | true =>
    have HE := Lib.hid (show R = true by rw [HD.out, hst]; rfl)
    clear HD
    go_wp2_with fail
    go_ret
    exact ⟨by rw [HE.out]; rfl, h12⟩
  | false =>
    have HE := Lib.hid (show R = Lib.hasPrefix s (t ++ [47]) by rw [HD.out, hst]; rfl)
    clear HD
    go_wp2_with fail
    refine (hP _).mono ?_
    rintro e w' ⟨rfl, rfl⟩
    go_wp2_with fail
    go_ret
    exact ⟨by rw [HE.out]; rfl, h12⟩

theorem row_put {W : World} {g k : Nat} {t : TypeId} {a : Array Value} (h : W.heap[g]? = some (.cells a t (0, 0))) (v : Value) : (W.setCell ⟨g, k, none⟩ v).heap[g]? = some (.cells (a.setIfInBounds k v) t (0, 0)) := by
  exact heap_setCell_same W g k _ _ v h

set_option maxHeartbeats 400000 in
theorem sClone_any (w : World) (s : List UInt8) (hs : s.length ≤ 1000000) :
    Calls Tryd.prog 34 #[Str s] w fun e W' => e = .returned (Str s) ∧ Below w.heap.size w W' := by
  have hsz := str_size s
  have h := Tryd.stringslite_Clone ⟨s.toArray⟩ w (by rw [hsz]; omega)
  go_enter Tryd.func34, Tryd.ntmps34
  go_wp2_with fail
  refine h.mono ?_
  rintro e w' ⟨rfl, hb⟩
  go_wp2
  go_ret
  exact ⟨rfl, hb⟩

set_option maxRecDepth 100000 in
set_option maxHeartbeats 1000000 in
theorem pParts_any (w : World) (s : List UInt8) (hm : s.length ≤ 1000) (hM : Mx w) :
    Calls Tryd.prog 14 #[Str s] w fun e W' => ∃ v, e = .returned v ∧ Ss W' v (partsR s) ∧ Below w.heap.size w W' := by
  have hsz := str_size s
  have hc := pCheck_any w s (by omega) hM
  have hS := fun m W hmx => Tryd.strings_Split ⟨s.toArray⟩ ⟨#[47]⟩ m W (by rw [hsz]; omega) hmx (by decide)
  rw [parts_split, parts_count] at hS
  have hl := partsB_len s
  have hpl := partsB_part s
  have HM := Lib.hid hM
  have HS := Lib.hid hS
  clear hM hS
  go_enter Tryd.func14, Tryd.ntmps14
  go_wp2_with fail
  refine hc.mono ?_
  rintro e w1 ⟨rfl, h1⟩
  clear hc
  by_cases h0 : breaksB s = 0
  · rw [checkN_zero.2 h0]
    have HE := Lib.hid (show partsR s = partsB s by rw [partsR, if_pos h0])
    obtain ⟨m, hmx⟩ := HM.out.below h1
    have hS := HS.out m w1 hmx
    generalize hp : partsB s = l at *
    have HLL := Lib.hid (And.intro hl hpl)
    clear h0 hp hl hpl HS HM hmx
    have hlen : l.length ≤ 100000 := by have := HLL.out.1; omega
    go_wp2_with fail
    refine hS.mono ?_
    rintro e w2 ⟨rfl, rfl⟩
    have hrow : (w1.alloc (.cells (l.map fun x => Str x).toArray 9)).heap[w1.heap.size]? = some (.cells (l.map fun x => Str x).toArray 9 (0, 0)) := World.alloc_heap_new _ _
    have hB2 : Below w.heap.size w (w1.alloc (.cells (l.map fun x => Str x).toArray 9)) := h1.alloc h1.size _
    generalize (w1.alloc (.cells (l.map fun x => Str x).toArray 9)) = w2 at *
    clear hS
    go_wp2_with fail
    go_loopw [13] (fun i wr => ∃ k : Nat, k ≤ l.length ∧ i = .int .i64 k ∧ wr.heap[w1.heap.size]? = some (.cells (l.map fun x => Str x).toArray 9 (0, 0)) ∧ Below w.heap.size w wr) (fun i _ => l.length - (intOf i).toNat)
    case atStart => exact ⟨0, by omega, rfl, hrow, hB2⟩
    case round =>
      clear hrow hB2
      obtain ⟨k, hk, rfl, hrow, hB⟩ := hrel
      by_cases hlt : k < l.length
      · obtain ⟨x, hxk⟩ : ∃ x, l[k]? = some x := ⟨_, List.getElem?_eq_getElem hlt⟩
        have hcl : ∀ W : World, W.heap[w1.heap.size]? = some (.cells (l.map fun x => Str x).toArray 9 (0, 0)) → W.cell? ⟨w1.heap.size, k, none⟩ = some (Str x) := fun W h => by
          simp only [World.cell?, h]
          simp [hxk]
        have hfr : ∀ W : World, W.heap[w1.heap.size]? = some (.cells (l.map fun x => Str x).toArray 9 (0, 0)) → W.frozen? ⟨w1.heap.size, k, none⟩ = false := fun W h => by simp [World.frozen?, h]
        have hput : ∀ W : World, W.heap[w1.heap.size]? = some (.cells (l.map fun x => Str x).toArray 9 (0, 0)) → (W.setCell ⟨w1.heap.size, k, none⟩ (Str x)).heap[w1.heap.size]? = some (.cells (l.map fun x => Str x).toArray 9 (0, 0)) := fun W h => by
          rw [row_put h]
          congr 2
          apply Array.ext_getElem?
          intro j
          rw [Array.getElem?_setIfInBounds]
          by_cases hj : k = j
          · subst hj; have e := (List.getElem?_eq_some_iff.1 hxk).2; simp [hlt, e]
          · simp [hj]
        have hc1 := hcl wr hrow
        have HC := Lib.hid (And.intro hcl (And.intro hfr hput))
        have HR := Lib.hid hrow
        have hxl : x.length ≤ 1000000 := by have := HLL.out.2 x (List.mem_of_getElem? hxk); omega
        have hlt' : (k : Int) < (l.length : Int) := by omega
        have HX := Lib.hid hxk
        clear hcl hfr hput hrow hxk
        go_wp2_with fail
        refine (sClone_any _ x hxl).mono ?_
        rintro e w3 ⟨rfl, h3⟩
        have hrow3 : w3.heap[w1.heap.size]? = some (.cells (l.map fun x => Str x).toArray 9 (0, 0)) := (h3.block _ (Array.getElem?_eq_some_iff.1 HR.out).1).trans HR.out
        have hB3 := hB.trans (h3.mono hB.size)
        have hc3 := HC.out.1 w3 hrow3
        have hf3 := HC.out.2.1 w3 hrow3
        have HP3 := Lib.hid (HC.out.2.2 w3 hrow3)
        clear hrow3 hc1 h3 hB
        go_wp2_with fail
        go_roundw
        case rel => exact ⟨k + 1, by omega, by go_num, HP3.out, hB3.setCell (p := ⟨w1.heap.size, k, none⟩) h1.size _⟩
        case measure => simp [intOf]; omega
      · obtain rfl : k = l.length := by omega
        have HR := Lib.hid hrow
        have hlt' : ¬ (l.length : Int) < (l.length : Int) := by omega
        clear hrow
        go_wp2
        go_ret
        refine ⟨_, rfl, ?_, hB⟩
        rw [HE.out]
        refine ⟨_, _, rfl, Nat.le_refl _, fun i x hx => ⟨w1.heap.size, 0, rfl, ?_⟩⟩
        rw [Nat.zero_add]
        simp only [World.cell?, HR.out]
        simp [hx]
  · have hc : checkN s = 40 := by unfold checkN; rw [if_neg h0]
    have HE := Lib.hid (show partsR s = [] by rw [partsR, if_neg h0])
    rw [hc]
    clear h0 hc HS HM
    go_wp2
    go_ret
    exact ⟨_, rfl, by rw [HE.out]; exact Ss.nil _, h1⟩
end Go.Proofs.YtldgnkngjdgiaaaDoor
