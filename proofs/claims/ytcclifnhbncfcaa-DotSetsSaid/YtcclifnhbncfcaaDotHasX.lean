/- Has of dots. -/
import Derived.Test.YtcclifnhbncfcaaDotHas
namespace Go.Proofs.Ytcclifnhbncfcaa
open Go.RowKit

/-- A load of a dot out of a list, written out. -/
theorem wpLoad_dot {ops : Array Oper} {rest : List Oper} {o : Oper} {a : Act} {w : World} {Q : Exit → Act → World → Prop} (hg : o.guard = none) (p : Operand) (ho : o.op = .load 38 p) {b off : Nat} (hp : a.eval p = .pointer (some ⟨b, off, none⟩)) {s c : Int} (hx : ElAt eDot w b off (s, c))
    (h : wpList Try.prog ops Q rest (a.put o.dst (DotV s c)) w) : wpList Try.prog ops Q (o :: rest) a w := eltDot.wpLoad hg p ho hp hx h

set_option maxRecDepth 100000 in
set_option maxHeartbeats 1000000 in
theorem pDHas_any (w : World) (v : Value) (l : List (Int × Int)) (x : Int × Int) (hs : Ds w v l) (hl : l.length ≤ 1000) :
    Calls Try.prog 23 #[v, eDot.val x] w fun e W' => e = .returned (.bool (decide (x ∈ l))) ∧ Below w.heap.size w W' := by
  obtain ⟨s, c⟩ := x
  show Calls Try.prog 23 #[v, DotV s c] w _
  obtain ⟨A, k0, rfl, hc⟩ := hs.form
  have hB0 : Below w.heap.size w (w.alloc (.cells #[.int .i64 s, .int .i64 c] 38)) := (Below.refl _ w).alloc (Nat.le_refl _) _
  have g1 : (w.alloc (.cells #[.int .i64 s, .int .i64 c] 38)).cell? ⟨w.heap.size, 0, none⟩ = some (.int .i64 s) := by go_simp
  have g2 : (w.alloc (.cells #[.int .i64 s, .int .i64 c] 38)).cell? ⟨w.heap.size, 1, none⟩ = some (.int .i64 c) := by go_simp
  have HS := Lib.hid (hs.below hB0)
  clear hs
  go_enter Try.func23, Try.ntmps23
  go_wp2_with fail
  generalize w.alloc (.cells #[.int .i64 s, .int .i64 c] 38) = W0 at *
  go_loopw [9] (fun i wr => ∃ k : Nat, k ≤ l.length ∧ i = .int .i64 k ∧ ¬ (s, c) ∈ l.take k ∧ Below W0.heap.size W0 wr) (fun i _ => l.length - (intOf i).toNat)
  case atStart => exact ⟨0, by omega, rfl, by simp, Below.refl _ _⟩
  case round =>
    obtain ⟨k, hk, rfl, ha, hB⟩ := hrel
    have HA := Lib.hid ha
    clear ha
    by_cases hkl : k < l.length
    case neg =>
      obtain rfl : k = l.length := by omega
      have HE := Lib.hid (show decide ((s, c) ∈ l) = false from decide_eq_false (by have := HA.out; rwa [List.take_length] at this))
      go_wp2_with fail
      go_ret
      exact ⟨by rw [HE.out]; rfl, hB0.trans (hB.mono hB0.size)⟩
    case pos =>
      obtain ⟨⟨s', c'⟩, hx⟩ : ∃ x, l[k]? = some x := ⟨_, List.getElem?_eq_getElem hkl⟩
      obtain ⟨b, off, rfl, hat⟩ := (HS.out.below hB).at hx
      have hat' : ElAt eDot wr b (off + k * 2) (s', c') := hat
      have HX := Lib.hid hx
      have e1 := cell_on hB g1
      have e2 := cell_on hB g2
      have hlt0 : w.heap.size < wr.heap.size := World.block_lt_of_cell? _ _ e1
      have hB1 : Below W0.heap.size W0 (wr.alloc (.cells #[.int .i64 s', .int .i64 c'] 38)) := hB.alloc hB.size _
      clear hat hx
      by_cases ho : s' = s ∧ c' = c
      case pos =>
        obtain ⟨rfl, rfl⟩ := ho
        go_wp2_with (refine wpLoad_dot rfl (.tmp 11) rfl rfl hat' ?_)
        go_ret
        refine ⟨?_, hB0.trans (hB1.mono hB0.size)⟩
        rw [decide_eq_true (List.mem_of_getElem? HX.out)]
        rfl
      case neg =>
        have hne : ¬ (s' = s ∧ c' = c) := ho
        have heb : (s' == s && c' == c) = false := by
          have := eqX_ne (x := (s', c')) (y := (s, c)) (fun h => ho (by injection h with h1 h2; exact ⟨h1, h2⟩))
          exact this
        have HN := Lib.hid (show ¬ (s, c) ∈ l.take (k + 1) by
          rw [List.take_add_one, HX.out]
          intro hm
          rcases List.mem_append.1 hm with hm | hm
          · exact HA.out hm
          · simp at hm
            exact ho ⟨hm.1.symm, hm.2.symm⟩)
        clear HA HX
        by_cases h1 : s' = s
        · subst h1
          have h2 : ¬ c' = c := fun h => ho ⟨rfl, h⟩
          clear ho hne heb
          go_wp2_with (refine wpLoad_dot rfl (.tmp 11) rfl rfl hat' ?_)
          go_roundw
          case rel => exact ⟨k + 1, by omega, by go_num, HN.out, hB1⟩
          case measure => simp [intOf]; omega
        · clear ho hne heb
          go_wp2_with (refine wpLoad_dot rfl (.tmp 11) rfl rfl hat' ?_)
          go_roundw
          case rel => exact ⟨k + 1, by omega, by go_num, HN.out, hB1⟩
          case measure => simp [intOf]; omega
end Go.Proofs.Ytcclifnhbncfcaa
