/- The laws' own breaks and alive (layer 4). -/
import Derived.Test.YtldgnkngjdgiaaaDoorRefnProg
import Derived.Test.YtldgnkngjdgiaaaDoorRefnRulesW
namespace Go.Proofs.YtldgnkngjdgiaaaDoor
open Go.RowKit

theorem partsB_pos (s : List UInt8) : 1 ≤ (partsB s).length := by have := parts_count s; omega
theorem partsR_len (s : List UInt8) : ((0 : Int) < ((partsR s).length : Int)) ↔ breaksB s = 0 := by
  have h := partsB_pos s
  unfold partsR
  by_cases h0 : breaksB s = 0
  · rw [if_pos h0]; constructor
    · exact fun _ => h0
    · intro _; omega
  · rw [if_neg h0]; constructor
    · intro h1; simp at h1
    · exact fun h1 => absurd h1 h0

set_option maxRecDepth 100000 in
set_option maxHeartbeats 1000000 in
theorem lawBreaks_zero (w : World) (A : Option Addr) (c : Nat) (l : List (List UInt8)) (hl : Ss w (.slice A l.length c) l) (hll : l.length ≤ 1000) (hx4 : ∀ x ∈ l, x.length ≤ 1000 ∧ breaksB x = 0) (hM : Mx w) :
    Calls Tryd.prog 23 #[.int .i64 0, .slice A l.length c] w fun e W' => e = .returned (.bool true) ∧ Below w.heap.size w W' := by
  have HM := Lib.hid hM
  have HL := Lib.hid hl
  have HX4 := Lib.hid hx4
  clear hM hl hx4
  go_enter Tryd.func23, Tryd.ntmps23
  go_wp2_with fail
  go_loopw [9] (fun i wr => ∃ k : Nat, k ≤ l.length ∧ i = .int .i64 k ∧ Below w.heap.size w wr) (fun i _ => l.length - (intOf i).toNat)
  case atStart => exact ⟨0, by omega, rfl, Below.refl _ _⟩
  case round =>
    obtain ⟨k, hk, rfl, hB⟩ := hrel
    by_cases hlt : k < l.length
    · obtain ⟨x, hxk⟩ : ∃ x, l[k]? = some x := ⟨_, List.getElem?_eq_getElem hlt⟩
      obtain ⟨b, off, rfl, hat⟩ := (HL.out.below hB).at hxk
      obtain ⟨hxl, hxb⟩ := HX4.out x (List.mem_of_getElem? hxk)
      have hlt' : (k : Int) < (l.length : Int) := by omega
      have c1 := fun W (h : Mx W) => pBreaks_any W x (by omega) h
      have c2 := fun W (h : Mx W) => pCheck_any W x (by omega) h
      have c3 := fun W (h : Mx W) => pParts_any W x (by omega) h
      have hpl := partsR_len x
      rw [hxb] at c1 hpl
      have hck : checkN x = if (0 : Nat) = 0 then 0 else 40 := by unfold checkN; rw [hxb]
      rw [hck] at c2
      have hMr := HM.out.below hB
      clear hxk hck hxb
      generalize partsR x = q at *
      obtain ⟨m, hqn⟩ : ∃ m, q.length = m + 1 := ⟨q.length - 1, by have := hpl.2 rfl; omega⟩
      rw [if_pos rfl] at c2
      clear hpl
      go_wp2_with fail
      refine (c1 _ hMr).mono ?_
      rintro e w1 ⟨rfl, k1⟩
      go_wp2_with fail
      refine (c2 _ (hMr.below k1)).mono ?_
      rintro e w2 ⟨rfl, k2⟩
      have k2' := k1.on k2
      clear c1 c2 k1 k2
      go_wp2_with fail
      refine (c3 _ (hMr.below k2')).mono ?_
      rintro e w3 ⟨v3, rfl, r3, k3⟩
      have k3' := hB.on (k2'.on k3)
      obtain ⟨A3, c3', rfl, _⟩ := r3.form
      rw [hqn]
      clear c3 k2' k3 r3 hB hqn
      go_wp2_with fail
      go_roundw
      case rel => exact ⟨k + 1, by omega, by go_num, k3'⟩
      case measure => simp [intOf]; omega
    · obtain rfl : k = l.length := by omega
      have hlt' : ¬ (l.length : Int) < (l.length : Int) := by omega
      go_wp2
      go_ret
      exact ⟨rfl, hB⟩
set_option maxRecDepth 100000 in
set_option maxHeartbeats 1000000 in
theorem lawBreaks_some (w : World) (A : Option Addr) (c : Nat) (l : List (List UInt8)) (r : Nat) (hl : Ss w (.slice A l.length c) l) (hll : l.length ≤ 1000) (hx4 : ∀ x ∈ l, x.length ≤ 1000 ∧ breaksB x = r) (h0 : ¬ r = 0) (hM : Mx w) :
    Calls Tryd.prog 23 #[.int .i64 (r : Int), .slice A l.length c] w fun e W' => e = .returned (.bool true) ∧ Below w.heap.size w W' := by
  have HM := Lib.hid hM
  have HL := Lib.hid hl
  have HX4 := Lib.hid hx4
  clear hM hl hx4
  go_enter Tryd.func23, Tryd.ntmps23
  go_wp2_with fail
  go_loopw [9] (fun i wr => ∃ k : Nat, k ≤ l.length ∧ i = .int .i64 k ∧ Below w.heap.size w wr) (fun i _ => l.length - (intOf i).toNat)
  case atStart => exact ⟨0, by omega, rfl, Below.refl _ _⟩
  case round =>
    obtain ⟨k, hk, rfl, hB⟩ := hrel
    by_cases hlt : k < l.length
    · obtain ⟨x, hxk⟩ : ∃ x, l[k]? = some x := ⟨_, List.getElem?_eq_getElem hlt⟩
      obtain ⟨b, off, rfl, hat⟩ := (HL.out.below hB).at hxk
      obtain ⟨hxl, hxb⟩ := HX4.out x (List.mem_of_getElem? hxk)
      have hlt' : (k : Int) < (l.length : Int) := by omega
      have c1 := fun W (h : Mx W) => pBreaks_any W x (by omega) h
      have c2 := fun W (h : Mx W) => pCheck_any W x (by omega) h
      have c3 := fun W (h : Mx W) => pParts_any W x (by omega) h
      have hpl := partsR_len x
      rw [hxb] at c1 hpl
      have hck : checkN x = if r = 0 then 0 else 40 := by unfold checkN; rw [hxb]
      rw [hck] at c2
      have hMr := HM.out.below hB
      clear hxk hck hxb
      generalize partsR x = q at *
      have hq : ¬ (0 : Int) < (q.length : Int) := fun h => h0 (hpl.1 h)
      have hq0 : ¬ (0 : Int) < (q.length : Int) := fun h => h0 (hpl.1 h)
      have hqn := Lib.hid (show q.length = 0 by omega)
      clear hq0
      rw [if_neg h0] at c2
      have hr0 : ¬ (r : Int) = 0 := by omega
      clear hpl
      go_wp2_with fail
      refine (c1 _ hMr).mono ?_
      rintro e w1 ⟨rfl, k1⟩
      go_wp2_with fail
      refine (c2 _ (hMr.below k1)).mono ?_
      rintro e w2 ⟨rfl, k2⟩
      have k2' := k1.on k2
      clear c1 c2 k1 k2
      go_wp2_with fail
      refine (c3 _ (hMr.below k2')).mono ?_
      rintro e w3 ⟨v3, rfl, r3, k3⟩
      have k3' := hB.on (k2'.on k3)
      obtain ⟨A3, c3', rfl, _⟩ := r3.form
      rw [hqn.out]
      clear c3 k2' k3 r3 hB hqn
      go_wp2_with fail
      go_roundw
      case rel => exact ⟨k + 1, by omega, by go_num, k3'⟩
      case measure => simp [intOf]; omega
    · obtain rfl : k = l.length := by omega
      have hlt' : ¬ (l.length : Int) < (l.length : Int) := by omega
      go_wp2
      go_ret
      exact ⟨rfl, hB⟩
theorem lawBreaks_form (w : World) (A : Option Addr) (c : Nat) (l : List (List UInt8)) (r : Nat) (hl : Ss w (.slice A l.length c) l) (hll : l.length ≤ 1000) (hx4 : ∀ x ∈ l, x.length ≤ 1000 ∧ breaksB x = r) (hM : Mx w) :
    Calls Tryd.prog 23 #[.int .i64 (r : Int), .slice A l.length c] w fun e W' => e = .returned (.bool true) ∧ Below w.heap.size w W' := by
  by_cases h0 : r = 0
  · subst h0; exact lawBreaks_zero w A c l hl hll hx4 hM
  · exact lawBreaks_some w A c l r hl hll hx4 h0 hM
theorem lawBreaks_new (w : World) (l : List (List UInt8)) (r : Nat) (hll : l.length ≤ 1000) (hx4 : ∀ x ∈ l, x.length ≤ 1000 ∧ breaksB x = r) (hM : Mx w) :
    Calls Tryd.prog 23 #[.int .i64 (r : Int), .slice (some ⟨w.heap.size, 0, none⟩) l.length l.length] (w.alloc (.cells (l.map fun x => Str x).toArray 9)) fun e W' => e = .returned (.bool true) ∧ Below w.heap.size w W' := by
  have hB : Below w.heap.size w (w.alloc (.cells (l.map fun x => Str x).toArray 9)) := (Below.refl _ w).alloc (Nat.le_refl _) _
  have hss : Ss (w.alloc (.cells (l.map fun x => Str x).toArray 9)) (.slice (some ⟨w.heap.size, 0, none⟩) l.length l.length) l := by
    refine ⟨_, _, rfl, Nat.le_refl _, fun i x hx => ⟨w.heap.size, 0, rfl, ?_⟩⟩
    rw [Nat.zero_add]
    simp only [World.cell?, World.alloc_heap_new]
    simp [hx]
  exact (lawBreaks_form _ _ _ l r hss hll hx4 (hM.below hB)).mono fun e W' ⟨h1, h2⟩ => ⟨h1, hB.trans (h2.mono hB.size)⟩

set_option maxRecDepth 100000 in
set_option maxHeartbeats 1000000 in
theorem alive4_any (w : World) (hM : Mx w) :
    Calls Tryd.prog 27 #[] w fun e W' => e = .returned (.bool true) ∧ Below w.heap.size w W' := by
  have a0 := fun W => lawBreaks_new W [[109, 97, 105, 110], [114, 101, 102, 115, 47, 104, 101, 97, 100, 115, 47, 97, 46, 98]] 0 (by decide) (by decide +kernel)
  have a1 := fun W => lawBreaks_new W [[]] 1 (by decide) (by decide +kernel)
  have a2 := fun W => lawBreaks_new W [[97, 32, 98], [97, 126, 98]] 2 (by decide) (by decide +kernel)
  have a3 := fun W => lawBreaks_new W [[97, 47, 47, 98]] 3 (by decide) (by decide +kernel)
  have a4 := fun W => lawBreaks_new W [[46, 97]] 4 (by decide) (by decide +kernel)
  have a5 := fun W => lawBreaks_new W [[97, 46, 46, 98]] 5 (by decide) (by decide +kernel)
  have a6 := fun W => lawBreaks_new W [[120, 46, 108, 111, 99, 107, 47, 121]] 6 (by decide) (by decide +kernel)
  have a7 := fun W => lawBreaks_new W [[97, 46]] 7 (by decide) (by decide +kernel)
  have a8 := fun W => lawBreaks_new W [[97, 64, 123, 98]] 8 (by decide) (by decide +kernel)
  simp only [List.map_cons, List.map_nil, List.length_cons, List.length_nil] at a0 a1 a2 a3 a4 a5 a6 a7 a8
  have HM := Lib.hid hM
  clear hM
  go_enter Tryd.func27, Tryd.ntmps27
  go_wp2_with fail
  refine (a0 _ HM.out).mono ?_
  rintro e w1 ⟨rfl, k0⟩
  have b0 := k0
  clear a0 k0
  go_wp2_with fail
  refine (a1 _ (HM.out.below b0)).mono ?_
  rintro e w2 ⟨rfl, k1⟩
  have b1 := b0.on k1
  clear b0
  clear a1 k1
  go_wp2_with fail
  refine (a2 _ (HM.out.below b1)).mono ?_
  rintro e w3 ⟨rfl, k2⟩
  have b2 := b1.on k2
  clear b1
  clear a2 k2
  go_wp2_with fail
  refine (a3 _ (HM.out.below b2)).mono ?_
  rintro e w4 ⟨rfl, k3⟩
  have b3 := b2.on k3
  clear b2
  clear a3 k3
  go_wp2_with fail
  refine (a4 _ (HM.out.below b3)).mono ?_
  rintro e w5 ⟨rfl, k4⟩
  have b4 := b3.on k4
  clear b3
  clear a4 k4
  go_wp2_with fail
  refine (a5 _ (HM.out.below b4)).mono ?_
  rintro e w6 ⟨rfl, k5⟩
  have b5 := b4.on k5
  clear b4
  clear a5 k5
  go_wp2_with fail
  refine (a6 _ (HM.out.below b5)).mono ?_
  rintro e w7 ⟨rfl, k6⟩
  have b6 := b5.on k6
  clear b5
  clear a6 k6
  go_wp2_with fail
  refine (a7 _ (HM.out.below b6)).mono ?_
  rintro e w8 ⟨rfl, k7⟩
  have b7 := b6.on k7
  clear b6
  clear a7 k7
  go_wp2_with fail
  refine (a8 _ (HM.out.below b7)).mono ?_
  rintro e w9 ⟨rfl, k8⟩
  have b8 := b7.on k8
  clear b7
  clear a8 k8
  go_wp2_with fail
  go_ret
  exact ⟨rfl, b8⟩
end Go.Proofs.YtldgnkngjdgiaaaDoor

