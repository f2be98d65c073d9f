/- The program's eight rules. -/
import Derived.Test.YtldgnkngjdgiaaaDoorRefnLib
import Derived.Laws.RangeAny
import Derived.Laws.RangeString
namespace Go.Proofs.YtldgnkngjdgiaaaDoor
open Go.RowKit

/-- The variable that a search reads holds a number. -/
def Mx (w : World) : Prop := ∃ m, w.cell? ⟨1, 0, none⟩ = some (.int .i64 m)
theorem Mx.below {w w' : World} (h : Mx w) (hb : Below w.heap.size w w') : Mx w' := by
  obtain ⟨m, hm⟩ := h
  exact ⟨m, (hb.cell (p := ⟨1, 0, none⟩) (World.block_lt_of_cell? _ _ hm)).trans hm⟩
def emptyP (p : List UInt8) : Bool := p == []
def dotP (p : List UInt8) : Bool := p[0]? == some 46
def lenP (s : List UInt8) : Bool := decide (s.length < 1 ∨ 100 < s.length)
def endP (s : List UInt8) : Bool := s[s.length - 1]? == some 46
theorem str_size (s : List UInt8) : (⟨s.toArray⟩ : ByteArray).size = s.length := by simp [ByteArray.size]

set_option maxHeartbeats 1000000 in
theorem hasLen_any (w : World) (s : List UInt8) (hm : s.length ≤ 4000000000) :
    Calls Tryd.prog 50 #[Str s] w fun e W' => e = .returned (.bool (lenP s)) ∧ Below w.heap.size w W' := by
  have hsz := str_size s
  have t1 := str_list s
  have t2 := str_nil
  by_cases h0 : s = []
  · subst h0
    go_enter Tryd.func50, Tryd.ntmps50
    go_wp2
    go_ret
    exact ⟨by rfl, Below.refl _ _⟩
  · have h1 : (s == ([] : List UInt8)) = false := by simpa using h0
    have hp : 1 ≤ s.length := by cases s with | nil => exact absurd rfl h0 | cons a l => simp
    by_cases hl : 100 < s.length
    · have HE := Lib.hid (show lenP s = true from decide_eq_true (Or.inr hl))
      have hg : (100 : Int) < (s.length : Int) := by omega
      clear h0 hp hl
      go_enter Tryd.func50, Tryd.ntmps50
      go_wp2
      go_ret
      exact ⟨by rw [HE.out]; first | rfl | simp [hg], Below.refl _ _⟩
    · have HE := Lib.hid (show lenP s = false from decide_eq_false (by omega))
      have hg : ¬ (100 : Int) < (s.length : Int) := by omega
      clear h0 hp hl
      go_enter Tryd.func50, Tryd.ntmps50
      go_wp2
      go_ret
      exact ⟨by rw [HE.out]; first | rfl | simp [hg], Below.refl _ _⟩

set_option maxHeartbeats 1000000 in
theorem hasEmpty1_any (w : World) (s : List UInt8) (hm : s.length ≤ 4000000000) :
    Calls Tryd.prog 74 #[Str s] w fun e W' => e = .returned (.bool ((emptyP) s)) ∧ W' = w := by
  have hsz := str_size s
  have t1 := str_list s
  have t2 := str_nil
  go_enter Tryd.func74, Tryd.ntmps74
  go_wp2
  go_ret
  exact ⟨by unfold emptyP; cases s <;> rfl, rfl⟩

set_option maxRecDepth 100000 in
set_option maxHeartbeats 1000000 in
theorem indexEmpty_form (w : World) (A : Option Addr) (c : Nat) (l : List (List UInt8)) (hl : Ss w (.slice A l.length c) l) (hll : l.length ≤ 1000000) (hx4 : ∀ x ∈ l, x.length ≤ 4000000000) :
    Calls Tryd.prog 100 #[.slice A l.length c, .func (.func 74) #[] #[]] w fun e W' => ∃ r : Int, e = .returned (.int .i64 r) ∧ decide (0 ≤ r) = l.any (emptyP) ∧ Below w.heap.size w W' := by
  go_enter Tryd.func100, Tryd.ntmps100
  go_wp2_with fail
  go_loopw [8] (fun i wr => ∃ k : Nat, k ≤ l.length ∧ i = .int .i64 k ∧ (l.take k).any (emptyP) = false ∧ ∃ q, wr = w.drewN q) (fun i _ => l.length - (intOf i).toNat)
  case atStart => exact ⟨0, by omega, rfl, by simp, 0, rfl⟩
  case round =>
    obtain ⟨k, hk, rfl, hni, q, rfl⟩ := hrel
    have HN := Lib.hid hni
    clear hni
    by_cases hlt : k < l.length
    case pos =>
      obtain ⟨x, hxk⟩ : ∃ x, l[k]? = some x := ⟨_, List.getElem?_eq_getElem hlt⟩
      obtain ⟨b, off, rfl, hat⟩ := hl.at hxk
      have hlt' : (k : Int) < (l.length : Int) := by omega
      have hx := hasEmpty1_any
      have hxl : x.length ≤ 4000000000 := hx4 x (List.mem_of_getElem? hxk)
      have HX := Lib.hid hxk
      clear hxk
      by_cases he : (emptyP) x = true
      · have HE := Lib.hid (show l.any (emptyP) = true from any_at HX.out he)
        have hxx : ∀ W, Calls Tryd.prog 74 #[Str x] W fun e W' => e = .returned (.bool true) ∧ W' = W := fun W => by have := hx W x hxl; rwa [he] at this
        clear he HX HN hx hxl
        go_wp2_with (go_at_call 74; refine (hxx _).mono ?_; rintro e w' ⟨rfl, rfl⟩)
        go_ret
        exact ⟨k, rfl, by rw [HE.out]; simp, ⟨rfl, rfl, rfl, Nat.le_refl _, fun _ _ => rfl⟩⟩
      · have HE := Lib.hid (show (l.take (k + 1)).any (emptyP) = false by rw [any_succ HX.out, HN.out]; simpa using he)
        have hxx : ∀ W, Calls Tryd.prog 74 #[Str x] W fun e W' => e = .returned (.bool false) ∧ W' = W := fun W => by have := hx W x hxl; rwa [Bool.eq_false_iff.2 he] at this
        clear he HX HN hx hxl
        go_wp2_with (go_at_call 74; refine (hxx _).mono ?_; rintro e w' ⟨rfl, rfl⟩)
        go_roundw
        case rel => exact ⟨k + 1, by omega, by go_num, HE.out, _, rfl⟩
        case measure => simp [intOf]; omega
    case neg =>
      obtain rfl : k = l.length := by omega
      have HE := Lib.hid (show l.any (emptyP) = false by have := HN.out; rwa [List.take_length] at this)
      have hlt' : ¬ (l.length : Int) < (l.length : Int) := by omega
      clear HN
      go_wp2
      go_ret
      exact ⟨-1, rfl, by rw [HE.out]; rfl, ⟨rfl, rfl, rfl, Nat.le_refl _, fun _ _ => rfl⟩⟩

set_option maxHeartbeats 1000000 in
theorem partEmpty_any (w : World) (s : List UInt8) (hm : s.length ≤ 100000) (hM : Mx w) :
    Calls Tryd.prog 73 #[Str s, .func (.func 74) #[] #[]] w fun e W' => e = .returned (.bool ((partsB s).any (emptyP))) ∧ Below w.heap.size w W' := by
  obtain ⟨m, hmx⟩ := hM
  have hsz := str_size s
  have hS := Tryd.strings_Split ⟨s.toArray⟩ ⟨#[47]⟩ m w (by rw [hsz]; omega) hmx (by decide)
  rw [parts_split, parts_count] at hS
  have hl := partsB_len s
  have hpl := partsB_part s
  have hss : Ss (w.alloc (.cells ((partsB s).map fun x => Str x).toArray 9)) (.slice (some ⟨w.heap.size, 0, none⟩) (partsB s).length (partsB s).length) (partsB s) := by
    refine ⟨_, _, rfl, Nat.le_refl _, fun i x hx => ⟨w.heap.size, 0, rfl, ?_⟩⟩
    rw [Nat.zero_add]
    simp only [World.cell?, World.alloc_heap_new]
    simp [hx]
  have hI := indexEmpty_form (w.alloc (.cells ((partsB s).map fun x => Str x).toArray 9)) _ _ _ hss (by omega) (fun x hx => by have := hpl x hx; omega)
  have hB1 : Below w.heap.size w (w.alloc (.cells ((partsB s).map fun x => Str x).toArray 9)) := (Below.refl _ w).alloc (Nat.le_refl _) _
  generalize (w.alloc (.cells ((partsB s).map fun x => Str x).toArray 9)) = w1 at *
  generalize hp : partsB s = l at *
  have HS := Lib.hid hS
  clear hss hpl hl hp hS
  have hC : Calls Tryd.prog 89 #[.slice (some ⟨w.heap.size, 0, none⟩) l.length l.length, .func (.func 74) #[] #[]] w1 fun e W' => e = .returned (.bool (l.any (emptyP))) ∧ Below w1.heap.size w1 W' := by
    go_enter Tryd.func89, Tryd.ntmps89
    go_wp2_with (go_at_call 100; refine hI.mono ?_; rintro e w' ⟨r, rfl, hr, hb⟩)
    go_ret
    exact ⟨by rw [← hr]; rfl, hb⟩
  clear hI
  go_enter Tryd.func73, Tryd.ntmps73
  go_wp2_with (first
    | (go_at_call 33; refine HS.out.mono ?_; rintro e w' ⟨rfl, rfl⟩)
    | (go_at_call 89; refine hC.mono ?_; rintro e w' ⟨rfl, hb2⟩))
  go_ret
  exact ⟨rfl, hB1.trans (hb2.mono hB1.size)⟩

set_option maxHeartbeats 1000000 in
theorem hasEmpty_any (w : World) (s : List UInt8) (hm : s.length ≤ 100000) (hM : Mx w) :
    Calls Tryd.prog 52 #[Str s] w fun e W' => e = .returned (.bool ((partsB s).any (emptyP))) ∧ Below w.heap.size w W' := by
  have h := partEmpty_any w s hm hM
  go_enter Tryd.func52, Tryd.ntmps52
  go_wp2_with (go_at_call 73; refine h.mono ?_; rintro e w' ⟨rfl, hb⟩)
  go_ret
  exact ⟨rfl, hb⟩

set_option maxHeartbeats 1000000 in
theorem hasDot1_any (w : World) (s : List UInt8) (hm : s.length ≤ 4000000000) :
    Calls Tryd.prog 75 #[Str s] w fun e W' => e = .returned (.bool ((dotP) s)) ∧ W' = w := by
  have hsz := str_size s
  have t1 := str_list s
  have t2 := str_nil
  go_enter Tryd.func75, Tryd.ntmps75
  go_wp2_with (go_at_call 26; refine (Tryd.strings_HasPrefix _ _ _).mono ?_; rintro e w' ⟨rfl, rfl⟩)
  go_ret
  exact ⟨by unfold dotP; rw [← prefix_dot]; rfl, rfl⟩

set_option maxRecDepth 100000 in
set_option maxHeartbeats 1000000 in
theorem indexDot_form (w : World) (A : Option Addr) (c : Nat) (l : List (List UInt8)) (hl : Ss w (.slice A l.length c) l) (hll : l.length ≤ 1000000) (hx4 : ∀ x ∈ l, x.length ≤ 4000000000) :
    Calls Tryd.prog 100 #[.slice A l.length c, .func (.func 75) #[] #[]] w fun e W' => ∃ r : Int, e = .returned (.int .i64 r) ∧ decide (0 ≤ r) = l.any (dotP) ∧ Below w.heap.size w W' := by
  go_enter Tryd.func100, Tryd.ntmps100
  go_wp2_with fail
  go_loopw [8] (fun i wr => ∃ k : Nat, k ≤ l.length ∧ i = .int .i64 k ∧ (l.take k).any (dotP) = false ∧ ∃ q, wr = w.drewN q) (fun i _ => l.length - (intOf i).toNat)
  case atStart => exact ⟨0, by omega, rfl, by simp, 0, rfl⟩
  case round =>
    obtain ⟨k, hk, rfl, hni, q, rfl⟩ := hrel
    have HN := Lib.hid hni
    clear hni
    by_cases hlt : k < l.length
    case pos =>
      obtain ⟨x, hxk⟩ : ∃ x, l[k]? = some x := ⟨_, List.getElem?_eq_getElem hlt⟩
      obtain ⟨b, off, rfl, hat⟩ := hl.at hxk
      have hlt' : (k : Int) < (l.length : Int) := by omega
      have hx := hasDot1_any
      have hxl : x.length ≤ 4000000000 := hx4 x (List.mem_of_getElem? hxk)
      have HX := Lib.hid hxk
      clear hxk
      by_cases he : (dotP) x = true
      · have HE := Lib.hid (show l.any (dotP) = true from any_at HX.out he)
        have hxx : ∀ W, Calls Tryd.prog 75 #[Str x] W fun e W' => e = .returned (.bool true) ∧ W' = W := fun W => by have := hx W x hxl; rwa [he] at this
        clear he HX HN hx hxl
        go_wp2_with (go_at_call 75; refine (hxx _).mono ?_; rintro e w' ⟨rfl, rfl⟩)
        go_ret
        exact ⟨k, rfl, by rw [HE.out]; simp, ⟨rfl, rfl, rfl, Nat.le_refl _, fun _ _ => rfl⟩⟩
      · have HE := Lib.hid (show (l.take (k + 1)).any (dotP) = false by rw [any_succ HX.out, HN.out]; simpa using he)
        have hxx : ∀ W, Calls Tryd.prog 75 #[Str x] W fun e W' => e = .returned (.bool false) ∧ W' = W := fun W => by have := hx W x hxl; rwa [Bool.eq_false_iff.2 he] at this
        clear he HX HN hx hxl
        go_wp2_with (go_at_call 75; refine (hxx _).mono ?_; rintro e w' ⟨rfl, rfl⟩)
        go_roundw
        case rel => exact ⟨k + 1, by omega, by go_num, HE.out, _, rfl⟩
        case measure => simp [intOf]; omega
    case neg =>
      obtain rfl : k = l.length := by omega
      have HE := Lib.hid (show l.any (dotP) = false by have := HN.out; rwa [List.take_length] at this)
      have hlt' : ¬ (l.length : Int) < (l.length : Int) := by omega
      clear HN
      go_wp2
      go_ret
      exact ⟨-1, rfl, by rw [HE.out]; rfl, ⟨rfl, rfl, rfl, Nat.le_refl _, fun _ _ => rfl⟩⟩

set_option maxHeartbeats 1000000 in
theorem partDot_any (w : World) (s : List UInt8) (hm : s.length ≤ 100000) (hM : Mx w) :
    Calls Tryd.prog 73 #[Str s, .func (.func 75) #[] #[]] w fun e W' => e = .returned (.bool ((partsB s).any (dotP))) ∧ Below w.heap.size w W' := by
  obtain ⟨m, hmx⟩ := hM
  have hsz := str_size s
  have hS := Tryd.strings_Split ⟨s.toArray⟩ ⟨#[47]⟩ m w (by rw [hsz]; omega) hmx (by decide)
  rw [parts_split, parts_count] at hS
  have hl := partsB_len s
  have hpl := partsB_part s
  have hss : Ss (w.alloc (.cells ((partsB s).map fun x => Str x).toArray 9)) (.slice (some ⟨w.heap.size, 0, none⟩) (partsB s).length (partsB s).length) (partsB s) := by
    refine ⟨_, _, rfl, Nat.le_refl _, fun i x hx => ⟨w.heap.size, 0, rfl, ?_⟩⟩
    rw [Nat.zero_add]
    simp only [World.cell?, World.alloc_heap_new]
    simp [hx]
  have hI := indexDot_form (w.alloc (.cells ((partsB s).map fun x => Str x).toArray 9)) _ _ _ hss (by omega) (fun x hx => by have := hpl x hx; omega)
  have hB1 : Below w.heap.size w (w.alloc (.cells ((partsB s).map fun x => Str x).toArray 9)) := (Below.refl _ w).alloc (Nat.le_refl _) _
  generalize (w.alloc (.cells ((partsB s).map fun x => Str x).toArray 9)) = w1 at *
  generalize hp : partsB s = l at *
  have HS := Lib.hid hS
  clear hss hpl hl hp hS
  have hC : Calls Tryd.prog 89 #[.slice (some ⟨w.heap.size, 0, none⟩) l.length l.length, .func (.func 75) #[] #[]] w1 fun e W' => e = .returned (.bool (l.any (dotP))) ∧ Below w1.heap.size w1 W' := by
    go_enter Tryd.func89, Tryd.ntmps89
    go_wp2_with (go_at_call 100; refine hI.mono ?_; rintro e w' ⟨r, rfl, hr, hb⟩)
    go_ret
    exact ⟨by rw [← hr]; rfl, hb⟩
  clear hI
  go_enter Tryd.func73, Tryd.ntmps73
  go_wp2_with (first
    | (go_at_call 33; refine HS.out.mono ?_; rintro e w' ⟨rfl, rfl⟩)
    | (go_at_call 89; refine hC.mono ?_; rintro e w' ⟨rfl, hb2⟩))
  go_ret
  exact ⟨rfl, hB1.trans (hb2.mono hB1.size)⟩

set_option maxHeartbeats 1000000 in
theorem hasDot_any (w : World) (s : List UInt8) (hm : s.length ≤ 100000) (hM : Mx w) :
    Calls Tryd.prog 53 #[Str s] w fun e W' => e = .returned (.bool ((partsB s).any (dotP))) ∧ Below w.heap.size w W' := by
  have h := partDot_any w s hm hM
  go_enter Tryd.func53, Tryd.ntmps53
  go_wp2_with (go_at_call 73; refine h.mono ?_; rintro e w' ⟨rfl, hb⟩)
  go_ret
  exact ⟨rfl, hb⟩

set_option maxHeartbeats 1000000 in
theorem hasLock1_any (w : World) (s : List UInt8) (hm : s.length ≤ 4000000000) :
    Calls Tryd.prog 77 #[Str s] w fun e W' => e = .returned (.bool ((endsLock) s)) ∧ W' = w := by
  have hsz := str_size s
  have t1 := str_list s
  have t2 := str_nil
  go_enter Tryd.func77, Tryd.ntmps77
  go_wp2_with (go_at_call 29; refine (Tryd.strings_HasSuffix _ _ _ (by rw [hsz]; omega)).mono ?_; rintro e w' ⟨rfl, rfl⟩)
  go_ret
  exact ⟨by rw [← suffix_lock]; rfl, rfl⟩

set_option maxRecDepth 100000 in
set_option maxHeartbeats 1000000 in
theorem indexLock_form (w : World) (A : Option Addr) (c : Nat) (l : List (List UInt8)) (hl : Ss w (.slice A l.length c) l) (hll : l.length ≤ 1000000) (hx4 : ∀ x ∈ l, x.length ≤ 4000000000) :
    Calls Tryd.prog 100 #[.slice A l.length c, .func (.func 77) #[] #[]] w fun e W' => ∃ r : Int, e = .returned (.int .i64 r) ∧ decide (0 ≤ r) = l.any (endsLock) ∧ Below w.heap.size w W' := by
  go_enter Tryd.func100, Tryd.ntmps100
  go_wp2_with fail
  go_loopw [8] (fun i wr => ∃ k : Nat, k ≤ l.length ∧ i = .int .i64 k ∧ (l.take k).any (endsLock) = false ∧ ∃ q, wr = w.drewN q) (fun i _ => l.length - (intOf i).toNat)
  case atStart => exact ⟨0, by omega, rfl, by simp, 0, rfl⟩
  case round =>
    obtain ⟨k, hk, rfl, hni, q, rfl⟩ := hrel
    have HN := Lib.hid hni
    clear hni
    by_cases hlt : k < l.length
    case pos =>
      obtain ⟨x, hxk⟩ : ∃ x, l[k]? = some x := ⟨_, List.getElem?_eq_getElem hlt⟩
      obtain ⟨b, off, rfl, hat⟩ := hl.at hxk
      have hlt' : (k : Int) < (l.length : Int) := by omega
      have hx := hasLock1_any
      have hxl : x.length ≤ 4000000000 := hx4 x (List.mem_of_getElem? hxk)
      have HX := Lib.hid hxk
      clear hxk
      by_cases he : (endsLock) x = true
      · have HE := Lib.hid (show l.any (endsLock) = true from any_at HX.out he)
        have hxx : ∀ W, Calls Tryd.prog 77 #[Str x] W fun e W' => e = .returned (.bool true) ∧ W' = W := fun W => by have := hx W x hxl; rwa [he] at this
        clear he HX HN hx hxl
        go_wp2_with (go_at_call 77; refine (hxx _).mono ?_; rintro e w' ⟨rfl, rfl⟩)
        go_ret
        exact ⟨k, rfl, by rw [HE.out]; simp, ⟨rfl, rfl, rfl, Nat.le_refl _, fun _ _ => rfl⟩⟩
      · have HE := Lib.hid (show (l.take (k + 1)).any (endsLock) = false by rw [any_succ HX.out, HN.out]; simpa using he)
        have hxx : ∀ W, Calls Tryd.prog 77 #[Str x] W fun e W' => e = .returned (.bool false) ∧ W' = W := fun W => by have := hx W x hxl; rwa [Bool.eq_false_iff.2 he] at this
        clear he HX HN hx hxl
        go_wp2_with (go_at_call 77; refine (hxx _).mono ?_; rintro e w' ⟨rfl, rfl⟩)
        go_roundw
        case rel => exact ⟨k + 1, by omega, by go_num, HE.out, _, rfl⟩
        case measure => simp [intOf]; omega
    case neg =>
      obtain rfl : k = l.length := by omega
      have HE := Lib.hid (show l.any (endsLock) = false by have := HN.out; rwa [List.take_length] at this)
      have hlt' : ¬ (l.length : Int) < (l.length : Int) := by omega
      clear HN
      go_wp2
      go_ret
      exact ⟨-1, rfl, by rw [HE.out]; rfl, ⟨rfl, rfl, rfl, Nat.le_refl _, fun _ _ => rfl⟩⟩

set_option maxHeartbeats 1000000 in
theorem partLock_any (w : World) (s : List UInt8) (hm : s.length ≤ 100000) (hM : Mx w) :
    Calls Tryd.prog 73 #[Str s, .func (.func 77) #[] #[]] w fun e W' => e = .returned (.bool ((partsB s).any (endsLock))) ∧ Below w.heap.size w W' := by
  obtain ⟨m, hmx⟩ := hM
  have hsz := str_size s
  have hS := Tryd.strings_Split ⟨s.toArray⟩ ⟨#[47]⟩ m w (by rw [hsz]; omega) hmx (by decide)
  rw [parts_split, parts_count] at hS
  have hl := partsB_len s
  have hpl := partsB_part s
  have hss : Ss (w.alloc (.cells ((partsB s).map fun x => Str x).toArray 9)) (.slice (some ⟨w.heap.size, 0, none⟩) (partsB s).length (partsB s).length) (partsB s) := by
    refine ⟨_, _, rfl, Nat.le_refl _, fun i x hx => ⟨w.heap.size, 0, rfl, ?_⟩⟩
    rw [Nat.zero_add]
    simp only [World.cell?, World.alloc_heap_new]
    simp [hx]
  have hI := indexLock_form (w.alloc (.cells ((partsB s).map fun x => Str x).toArray 9)) _ _ _ hss (by omega) (fun x hx => by have := hpl x hx; omega)
  have hB1 : Below w.heap.size w (w.alloc (.cells ((partsB s).map fun x => Str x).toArray 9)) := (Below.refl _ w).alloc (Nat.le_refl _) _
  generalize (w.alloc (.cells ((partsB s).map fun x => Str x).toArray 9)) = w1 at *
  generalize hp : partsB s = l at *
  have HS := Lib.hid hS
  clear hss hpl hl hp hS
  have hC : Calls Tryd.prog 89 #[.slice (some ⟨w.heap.size, 0, none⟩) l.length l.length, .func (.func 77) #[] #[]] w1 fun e W' => e = .returned (.bool (l.any (endsLock))) ∧ Below w1.heap.size w1 W' := by
    go_enter Tryd.func89, Tryd.ntmps89
    go_wp2_with (go_at_call 100; refine hI.mono ?_; rintro e w' ⟨r, rfl, hr, hb⟩)
    go_ret
    exact ⟨by rw [← hr]; rfl, hb⟩
  clear hI
  go_enter Tryd.func73, Tryd.ntmps73
  go_wp2_with (first
    | (go_at_call 33; refine HS.out.mono ?_; rintro e w' ⟨rfl, rfl⟩)
    | (go_at_call 89; refine hC.mono ?_; rintro e w' ⟨rfl, hb2⟩))
  go_ret
  exact ⟨rfl, hB1.trans (hb2.mono hB1.size)⟩

set_option maxHeartbeats 1000000 in
theorem hasLock_any (w : World) (s : List UInt8) (hm : s.length ≤ 100000) (hM : Mx w) :
    Calls Tryd.prog 55 #[Str s] w fun e W' => e = .returned (.bool ((partsB s).any (endsLock))) ∧ Below w.heap.size w W' := by
  have h := partLock_any w s hm hM
  go_enter Tryd.func55, Tryd.ntmps55
  go_wp2_with (go_at_call 73; refine h.mono ?_; rintro e w' ⟨rfl, hb⟩)
  go_ret
  exact ⟨rfl, hb⟩

set_option maxHeartbeats 1000000 in
theorem hasTwo_any (w : World) (s : List UInt8) (hm : s.length ≤ 100000) (hM : Mx w) :
    Calls Tryd.prog 54 #[Str s] w fun e W' => e = .returned (.bool (hasPair 46 46 s)) ∧ Below w.heap.size w W' := by
  obtain ⟨m, hmx⟩ := hM
  have hsz := str_size s
  have h := Tryd.strings_Contains ⟨s.toArray⟩ ⟨#[46, 46]⟩ m w (by rw [hsz]; omega) hmx
  have h2 : Lib.contains (⟨s.toArray⟩ : ByteArray).data.toList (⟨#[46, 46]⟩ : ByteArray).data.toList = hasPair 46 46 s := pair_contains _ _ s
  rw [h2] at h
  go_enter Tryd.func54, Tryd.ntmps54
  go_wp2_with (go_at_call 76; refine h.mono ?_; rintro e w' ⟨rfl, rfl⟩)
  go_ret
  exact ⟨rfl, Below.refl _ _⟩

set_option maxHeartbeats 1000000 in
theorem hasBrace_any (w : World) (s : List UInt8) (hm : s.length ≤ 100000) (hM : Mx w) :
    Calls Tryd.prog 57 #[Str s] w fun e W' => e = .returned (.bool (hasPair 64 123 s)) ∧ Below w.heap.size w W' := by
  obtain ⟨m, hmx⟩ := hM
  have hsz := str_size s
  have h := Tryd.strings_Contains ⟨s.toArray⟩ ⟨#[64, 123]⟩ m w (by rw [hsz]; omega) hmx
  have h2 : Lib.contains (⟨s.toArray⟩ : ByteArray).data.toList (⟨#[64, 123]⟩ : ByteArray).data.toList = hasPair 64 123 s := pair_contains _ _ s
  rw [h2] at h
  go_enter Tryd.func57, Tryd.ntmps57
  go_wp2_with (go_at_call 76; refine h.mono ?_; rintro e w' ⟨rfl, rfl⟩)
  go_ret
  exact ⟨rfl, Below.refl _ _⟩

set_option maxHeartbeats 1000000 in
theorem hasEnd_any (w : World) (s : List UInt8) (hm : s.length ≤ 100000) :
    Calls Tryd.prog 56 #[Str s] w fun e W' => e = .returned (.bool (endP s)) ∧ Below w.heap.size w W' := by
  have hsz := str_size s
  have h := Tryd.strings_HasSuffix ⟨s.toArray⟩ ⟨#[46]⟩ w (by rw [hsz]; omega)
  have h2 : Lib.hasSuffix (⟨s.toArray⟩ : ByteArray).data.toList (⟨#[46]⟩ : ByteArray).data.toList = endP s := suffix_dot s
  rw [h2] at h
  go_enter Tryd.func56, Tryd.ntmps56
  go_wp2_with (go_at_call 29; refine h.mono ?_; rintro e w' ⟨rfl, rfl⟩)
  go_ret
  exact ⟨rfl, Below.refl _ _⟩
end Go.Proofs.YtldgnkngjdgiaaaDoor

