/- The iterator over a block's rounds: rounds$1. The chain with a block behind: the program's with. -/
import Derived.Test.YtljihmbmjpcfaaaGreatHashWord
import Derived.Test.YtljihmbmjpcfaaaGreatSeqLaw
import Derived.Test.YtljihmbmjpcfaaaGreatDrawnV
import Derived.StillTailTactics
import Derived.RangeFuncNested
import Derived.RangeFuncBound
import Derived.RangeFuncCalls
import Derived.RangeFuncLeaves
import Derived.RangeFuncBox
import Derived.OwnWalkIn
import Derived.TacticsInMore
import Derived.LoopNIn
import Derived.LoopIn
import Derived.Outline
import Derived.Test.YtljihmbmjpcfaaaGreatRoundTail
namespace Go.Proofs.YtljihmbmjpcfaaaGreat
open Go.RowKit Go.Shelf
attribute [local go_sem] Oper.semAt_some

/-- What a round that writes into block Bx keeps: all other cells. -/
structure KpX (Bx : Nat) (A B : World) : Prop where
  size : A.heap.size ≤ B.heap.size
  same : ∀ j o, A.heap[j]? = some o → o.isCells = true → j ≠ Bx → B.heap[j]? = some o
theorem KpX.trans {Bx : Nat} {A B C : World} (h : KpX Bx A B) (k : KpX Bx B C) : KpX Bx A C :=
  ⟨Nat.le_trans h.size k.size, fun j o hj ho hne => k.same j o (h.same j o hj ho hne) ho hne⟩
theorem KpX.putObj {Bx : Nat} {W : World} {l : Nat} {o o' : Obj} (hl : W.heap[l]? = some o) (ho : o.isCells = false) : KpX Bx W (W.putObj l o') := by
  have hsz : (W.putObj l o').heap.size = W.heap.size := by simp [World.putObj]
  refine ⟨by omega, fun j u hj hu _ => (World.putObj_heap_other (fun e => ?_)).trans hj⟩
  subst e
  rw [hl] at hj
  cases hj
  rw [ho] at hu
  cases hu
theorem KpX.cell {Bx : Nat} {A B : World} (h : KpX Bx A B) {p : Addr} {v : Value} (hp : p.block ≠ Bx) (hc : A.cell? p = some v) : B.cell? p = some v := by
  have : ∃ o, A.heap[p.block]? = some o ∧ o.isCells = true := by
    have h2 := hc
    unfold World.cell? at h2
    split at h2
    · next c t f he => exact ⟨_, he, rfl⟩
    · cases h2
  obtain ⟨_, ho, hoc⟩ := this
  exact (World.cell?_of_block ((h.same _ _ ho hoc hp).trans ho.symm)).trans hc
theorem KpX.box {α : Type} {E : Elt α} {t : TypeId} {Bx g : Nat} {A B : World} {x : α} (h : KpX Bx A B) (hg : g ≠ Bx) (hb : BoxE E t A g x) : BoxE E t B g x := h.same g _ hb rfl hg
/-- What the iterator does of its own: what lay below n₀ stays. -/
def StX (n₀ : Nat) (A B : World) : Prop := Below n₀ A B ∧ KeepsOthers A B
theorem StX.trans {n₀ : Nat} {A B C : World} (h : StX n₀ A B) (k : StX n₀ B C) : StX n₀ A C := ⟨h.1.trans k.1, h.2.trans k.2⟩
theorem StX.below {n₀ : Nat} {A B : World} (h : Below A.heap.size A B) (hn : n₀ ≤ A.heap.size) : StX n₀ A B :=
  ⟨h.mono hn, ⟨h.size, fun k _ hk _ => (h.block k (Array.getElem?_eq_some_iff.1 hk).1).trans hk⟩⟩
theorem StX.set {n₀ : Nat} (A : World) {p : Addr} (u : Value) (hp : n₀ ≤ p.block) : StX n₀ A (A.setCell p u) := ⟨(Below.refl _ A).setCell hp u, KeepsOthers.setCell _ _ _⟩
abbrev win16 (x : List UInt8) (k : Nat) : W16 := ⟨win (words x) k, win_length _ _⟩
abbrev BoxW16 (W : World) (g : Nat) (x : W16) : Prop := BoxE eW16 247 W g x

theorem wrap_tmod {k : Nat} (hk : k < 64) (d : Int) (h0 : 0 ≤ d) (h1 : d ≤ (k : Int)) {p : Nat} (hp : ((k : Int) - d) % 16 = (p : Int)) : (IntKind.i64.wrap ((k : Int) - d)).tmod 16 = (p : Int) := by
  have hw : IntKind.i64.wrap ((k : Int) - d) = (k : Int) - d := by
    simp [IntKind.wrap, IntKind.bits, IntKind.signed]
    omega
  rw [hw, Int.tmod_eq_emod_of_nonneg (by omega), hp]
/-- What the store of a round's word leaves. -/
theorem win_store {n₀ Bw q k : Nat} {x : List UInt8} {J : List Nat → World → Prop} (hJ : ∀ s A B, J s A → StX n₀ A B → J s B) (hn0 : n₀ ≤ Bw) (hq : q = k % 16) {y : Nat} (hy : y = (words x).getD k 0) {w1 : World} (hJk : J ((words x).take k) w1) (hbx : BoxW16 w1 Bw (win16 x k)) :
    w1.frozen? ⟨Bw, q, none⟩ = false ∧ (∃ u : Nat, w1.cell? ⟨Bw, q, none⟩ = some (.int .u32 (u : Int))) ∧ J ((words x).take k) (w1.setCell ⟨Bw, q, none⟩ (.int .u32 (y : Int))) ∧
    BoxW16 (w1.setCell ⟨Bw, q, none⟩ (.int .u32 (y : Int))) Bw (win16 x (k + 1)) ∧
    (w1.setCell ⟨Bw, q, none⟩ (.int .u32 (y : Int))).cell? ⟨Bw, q, none⟩ = some (.int .u32 (y : Int)) := by
  have hq16 : q < 16 := by omega
  have h3 : BoxW16 (w1.setCell ⟨Bw, q, none⟩ (.int .u32 (y : Int))) Bw (win16 x (k + 1)) := by
    refine hbx.put _ ?_
    show (wds (win (words x) k)).set q _ = wds (win (words x) (k + 1))
    rw [wds_set, hq, hy, win_set]
  refine ⟨hbx.frozen q, ⟨_, by have := hbx.at q _ (wds_get (win_get? (words x) k hq16)); rwa [Nat.zero_add] at this⟩, hJ _ _ _ hJk (StX.set w1 (p := ⟨Bw, q, none⟩) _ hn0), h3, ?_⟩
  have := h3.at q _ (wds_get (win_get? (words x) (k + 1) hq16))
  rw [Nat.zero_add, if_pos (by omega), show k + 1 - 1 - (k + 1 - 1 - q) % 16 = k by omega, ← hy] at this
  exact this

set_option maxRecDepth 100000 in
set_option maxHeartbeats 2000000 in
theorem rounds1_in (n : Nat) (lp B1 gb ob Bx n₀ : Nat) (x : List UInt8) (hx : x.length = 64) (J Jx : List Nat → World → Prop)
    (hJ : ∀ s A B, J s A → StX n₀ A B → J s B)
    (hY : ∀ pre y W1, J pre W1 → (pre.length < 64 ∧ y = (words x).getD pre.length 0) → YieldAt Fence.wide (n - 1) Tryz.prog lp #[.int .i64 (pre.length : Int), .int .u32 (y : Int)] W1 fun e W' =>
      (e = .returned (.bool true) ∧ J (pre ++ [y]) W' ∧ KpX Bx W1 W') ∨ (e = .returned (.bool false) ∧ Jx (pre ++ [y]) W' ∧ KpX Bx W1 W'))
    (W : World) (hn0 : n₀ ≤ W.heap.size) (hBx : Bx < n₀) (hB1 : W.cell? ⟨B1, 0, none⟩ = some (.pointer (some ⟨gb, ob, none⟩))) (h1x : B1 ≠ Bx) (hgx : gb ≠ Bx) (hcells : ∀ i y, x[i]? = some y → W.cell? ⟨gb, ob + i, none⟩ = some (B8 y)) (h0 : J [] W) :
    CallsIn Fence.wide n Tryz.prog 151 #[.func (.yield lp) #[] #[], .pointer (some ⟨B1, 0, none⟩)] W fun e W' => (∃ v, e = .returned v) ∧
      ((∃ ys, ys = words x ∧ J ys W') ∨ (∃ pre, True ∧ Jx pre W')) := by
  have hb1l : B1 < W.heap.size := World.block_lt_of_cell? _ _ hB1
  have hgbl : gb < W.heap.size := World.block_lt_of_cell? _ _ (hcells 0 (x[0]'(by omega)) (List.getElem?_eq_getElem _))
  have hA := (Below.refl W.heap.size W).alloc (Nat.le_refl _) (.cells (eW16.enc zero16).toArray 247)
  have hJ0 := hJ _ _ _ h0 (StX.below hA hn0)
  have hbx0 : BoxW16 (W.alloc (.cells (eW16.enc zero16).toArray 247)) W.heap.size (win16 x 0) := by
    have := BoxE.new (E := eW16) (t := 247) W zero16
    have e : win16 x 0 = zero16 := by
      unfold win16 zero16
      congr 1
    rw [e]
    exact this
  have hc1 := (hA.cell (p := ⟨B1, 0, none⟩) hb1l).trans hB1
  have hcs : ∀ i y, x[i]? = some y → (W.alloc (.cells (eW16.enc zero16).toArray 247)).cell? ⟨gb, ob + i, none⟩ = some (B8 y) := fun i y h => (hA.cell (p := ⟨gb, ob + i, none⟩) hgbl).trans (hcells i y h)
  refine callsIn_of_wp Tryz.func151 rfl trivial ?_ rfl
  simp only [Tryz.ntmps151, List.size_toArray, List.length_cons, List.length_nil, Nat.reduceAdd, Nat.reduceSub, Array.replicate_succ, Array.replicate_zero, List.push_toArray, List.append_toArray, List.nil_append, List.cons_append]
  gi_wp2
  rw [show (W.alloc (.cells #[.int .u32 0, .int .u32 0, .int .u32 0, .int .u32 0, .int .u32 0, .int .u32 0, .int .u32 0, .int .u32 0, .int .u32 0, .int .u32 0, .int .u32 0, .int .u32 0, .int .u32 0, .int .u32 0, .int .u32 0, .int .u32 0] 247)) = W.alloc (.cells (eW16.enc zero16).toArray 247) from rfl]
  have hsz : W.heap.size < (W.alloc (.cells (eW16.enc zero16).toArray 247)).heap.size := by simp
  generalize W.alloc (.cells (eW16.enc zero16).toArray 247) = w0 at *
  gi_loopw [6] (fun p wr => ∃ k : Nat, k ≤ 64 ∧ p = .int .i64 (k : Int) ∧ J ((words x).take k) wr ∧ BoxW16 wr W.heap.size (win16 x k) ∧ wr.cell? ⟨B1, 0, none⟩ = some (.pointer (some ⟨gb, ob, none⟩)) ∧ (∀ i y, x[i]? = some y → wr.cell? ⟨gb, ob + i, none⟩ = some (B8 y)))
    (fun p _ => 64 - (intOf p).toNat)
  case atStart => exact ⟨0, by omega, rfl, hJ0, hbx0, hc1, hcs⟩
  case round =>
    clear hJ0 hbx0 hc1 hcs hsz hA hB1 hcells h0
    obtain ⟨k, hk64, rfl, hJk, hbx, hc1, hcs⟩ := hrel
    by_cases hlt : k < 64
    case neg =>
      obtain rfl : k = 64 := by omega
      gi_wp2
      go_end0
      rw [List.take_of_length_le (by rw [words_length]; omega)] at hJk
      exact ⟨⟨_, rfl⟩, .inl ⟨_, rfl, hJk⟩⟩
    case pos =>
      have hlti : (k : Int) < 64 := by omega
      obtain ⟨q, hq⟩ : ∃ q, q = k % 16 := ⟨_, rfl⟩
      have hqi : (k : Int) % 16 = (q : Int) := by omega
      have hq16 : q < 16 := by omega
      have HQ := Lib.hid hq
      clear hq
      obtain ⟨y, hy⟩ : ∃ y, y = (words x).getD k 0 := ⟨_, rfl⟩
      have HW := Lib.hid hy
      have hlen : ((words x).take k).length = k := by rw [List.length_take, words_length]; omega
      have hnext : (words x).take (k + 1) = (words x).take k ++ [y] := by
        rw [List.take_add_one, List.getElem?_eq_getElem (by rw [words_length]; exact hlt), hy, List.getD_eq_getElem?_getD, List.getElem?_eq_getElem (by rw [words_length]; exact hlt)]
        rfl
      have HN := Lib.hid hnext
      have HL := Lib.hid hlen
      clear hy hlen hnext
      have hBw := hbx.lt
      have hn0w : n₀ ≤ wr.heap.size := by omega
      by_cases h16 : k < 16
      case pos =>
        have h16i : (k : Int) < 16 := by omega
        have hsl : (Instr.sliceAt 119 (.pointer (some ⟨gb, ob, none⟩)) (some (.int .i64 (4 * (k : Int)))) none none).run Tryz.prog wr = .ok (.slice (some ⟨gb, ob + 4 * k, none⟩) (64 - 4 * k) (64 - 4 * k)) wr := by
          have := slice_a64 wr gb ob (4 * k) (by omega)
          rwa [show ((4 * k : Nat) : Int) = 4 * (k : Int) by omega] at this
        have hg4 : ∀ j, j < 4 → ∃ y, x[4 * k + j]? = some y ∧ y = x.getD (4 * k + j) 0 := fun j hj => ⟨_, List.getElem?_eq_getElem (by omega), by rw [List.getD_eq_getElem?_getD, List.getElem?_eq_getElem (by omega)]; rfl⟩
        obtain ⟨y0, hy0, g0⟩ := hg4 0 (by omega)
        obtain ⟨y1, hy1, g1⟩ := hg4 1 (by omega)
        obtain ⟨y2, hy2, g2⟩ := hg4 2 (by omega)
        obtain ⟨y3, hy3, g3⟩ := hg4 3 (by omega)
        have CW := wordAt_any wr gb (ob + 4 * k) (64 - 4 * k) (64 - 4 * k) (by omega) y0 y1 y2 y3 (hcs _ _ hy0) (by rw [Nat.add_assoc]; exact hcs _ _ hy1) (by rw [Nat.add_assoc]; exact hcs _ _ hy2) (by rw [Nat.add_assoc]; exact hcs _ _ hy3)
        have hwv : y0.toNat * 16777216 + y1.toNat * 65536 + y2.toNat * 256 + y3.toNat = y := by
          rw [HW.out, words_get x hlt, if_pos h16, word4, g0, g1, g2, g3]
          rfl
        rw [hwv] at CW
        clear hwv hg4 hy0 hy1 hy2 hy3 g0 g1 g2 g3
        gi_wp2
        refine ⟨trivial, fun h => (by cases h), (callsIn_wide.2 CW).mono ?_⟩
        rintro e w1 ⟨rfl, hb1⟩
        have hcs1 : ∀ i y, x[i]? = some y → w1.cell? ⟨gb, ob + i, none⟩ = some (B8 y) := fun i y h => (hb1.cell (p := ⟨gb, ob + i, none⟩) (World.block_lt_of_cell? _ _ (hcs i y h))).trans (hcs i y h)
        have hc11 := (hb1.cell (p := ⟨B1, 0, none⟩) (World.block_lt_of_cell? _ _ hc1)).trans hc1
        obtain ⟨f1, ⟨u, c1⟩, hJ2, hb2, c2⟩ := win_store hJ hn0 HQ.out HW.out (hJ _ _ _ hJk (StX.below hb1 hn0w)) (hbx.below hb1)
        have hw1 : W.heap.size < w1.heap.size := Nat.lt_of_lt_of_le hBw hb1.size
        have hc12 := (World.cell?_setCell_other w1 ⟨W.heap.size, q, none⟩ ⟨B1, 0, none⟩ (.int .u32 (y : Int)) (by intro e; injection e; omega)).trans hc11
        have hcs2 : ∀ i z, x[i]? = some z → (w1.setCell ⟨W.heap.size, q, none⟩ (.int .u32 (y : Int))).cell? ⟨gb, ob + i, none⟩ = some (B8 z) := fun i z h => (World.cell?_setCell_other w1 ⟨W.heap.size, q, none⟩ ⟨gb, ob + i, none⟩ (.int .u32 (y : Int)) (by intro e; injection e; omega)).trans (hcs1 i z h)
        clear hJk hbx hc1 hcs hsl CW hBw hb1 hn0w hc11 hcs1
        obtain ⟨fn, tmps, assign, body, hyy, hR⟩ := hY _ y _ hJ2 ⟨by rw [HL.out]; exact hlt, by rw [HL.out]; exact HW.out⟩
        rw [← HN.out] at hR
        rw [HL.out] at hyy
        have HB2 := Lib.hid hb2
        have HC1 := Lib.hid hc12
        have HCS := Lib.hid hcs2
        clear hJ2 hb2 hc12 hcs2 hY
        gi_wp2
        refine ⟨fun h => (by cases h), hR.mono ?_⟩
        rintro e W3 (⟨rfl, hJ3, hk3⟩ | ⟨rfl, hJx3, hk3⟩)
        · have hb3 := hk3.box (by omega) HB2.out
          have hc13 := hk3.cell (p := ⟨B1, 0, none⟩) h1x HC1.out
          have hcs3 : ∀ i y, x[i]? = some y → W3.cell? ⟨gb, ob + i, none⟩ = some (B8 y) := fun i y h => hk3.cell (p := ⟨gb, ob + i, none⟩) hgx (HCS.out i y h)
          clear hyy hk3
          gi_wp2
          go_roundw
          case rel => exact ⟨k + 1, by omega, by go_num, hJ3, hb3, hc13, hcs3⟩
          case measure => simp [intOf]; omega
        · clear hyy hk3
          gi_wp2
          refine bodyPost_ret (results_none rfl _ _ _) rfl ?_
          exact ⟨⟨_, rfl⟩, .inr ⟨_, trivial, hJx3⟩⟩
      case neg =>
        have h16i : ¬ (k : Int) < 16 := by omega
        have hg : ∀ d, 1 ≤ d → d ≤ 16 → ∃ p a : Nat, p = (k - d) % 16 ∧ a = (words x).getD (k - d) 0 ∧ a < 4294967296 ∧ wr.cell? ⟨W.heap.size, p, none⟩ = some (.int .u32 (a : Int)) := fun d h1 h2 => by
          refine ⟨_, _, rfl, rfl, words_lt x (by omega), ?_⟩
          have := hbx.at _ _ (wds_get (win_back (words x) (by omega) h1 h2))
          rwa [Nat.zero_add] at this
        obtain ⟨p16, a16, hp16, ha16, l16, c16⟩ := hg 16 (by omega) (by omega)
        obtain ⟨p15, a15, hp15, ha15, l15, c15⟩ := hg 15 (by omega) (by omega)
        obtain ⟨p7, a7, hp7, ha7, l7, c7⟩ := hg 7 (by omega) (by omega)
        obtain ⟨p2, a2, hp2, ha2, l2, c2⟩ := hg 2 (by omega) (by omega)
        obtain rfl : p16 = q := by have := HQ.out; omega
        obtain ⟨sl, hsl⟩ : ∃ s, s = smallLow a15 := ⟨_, rfl⟩
        obtain ⟨sh, hsh⟩ : ∃ s, s = smallHigh a2 := ⟨_, rfl⟩
        have hy2 : y = (a16 + sl + a7 + sh) % 4294967296 := by rw [HW.out, words_get x hlt, if_neg h16, hsl, hsh, ha16, ha15, ha7, ha2]
        have HY2 := Lib.hid hy2
        have e15 : ((k : Int) - 15) % 16 = (p15 : Int) := by omega
        have e7 : ((k : Int) - 7) % 16 = (p7 : Int) := by omega
        have e2 : ((k : Int) - 2) % 16 = (p2 : Int) := by omega
        have f15 := wrap_tmod hlt 15 (by omega) (by omega) e15
        have f7 := wrap_tmod hlt 7 (by omega) (by omega) e7
        have f2 := wrap_tmod hlt 2 (by omega) (by omega) e2
        have g16 : (p16 : Int) < 16 := by omega
        have g15 : (p15 : Int) < 16 := by omega
        have g7 : (p7 : Int) < 16 := by omega
        have g2 : (p2 : Int) < 16 := by omega
        have k15 : (0 : Int) ≤ (k : Int) - 15 := by omega
        have k7 : (0 : Int) ≤ (k : Int) - 7 := by omega
        have k2 : (0 : Int) ≤ (k : Int) - 2 := by omega
        have S0 : ∀ W1, Calls Tryz.prog 153 #[.int .u32 (a15 : Int)] W1 fun e w' => e = .returned (.int .u32 (sl : Int)) ∧ w' = W1 := fun W1 => by rw [hsl]; exact (spread0_any W1 a15 l15).mono fun _ _ h => ⟨h.1, h.2.symm⟩
        have S1 : ∀ W1, Calls Tryz.prog 154 #[.int .u32 (a2 : Int)] W1 fun e w' => e = .returned (.int .u32 (sh : Int)) ∧ w' = W1 := fun W1 => by rw [hsh]; exact (spread1_any W1 a2 l2).mono fun _ _ h => ⟨h.1, h.2.symm⟩
        clear hg hp16 hp15 hp7 hp2 ha16 ha15 ha7 ha2 hsl hsh hy2
        gi_wp2
        refine wpIn_wide.2 ?_
        go_still_tail 24, (by kernel_rfl)
        still_call (S0 _)
        repeat still_step
        still_call (S1 _)
        repeat still_step
        refine wpStill_nil ?_
        have hwr : IntKind.u32.wrap ((a16 : Int) + IntKind.u32.wrap (IntKind.u32.wrap ((sl : Int) + (a7 : Int)) + (sh : Int))) = (y : Int) := by
          have := HY2.out
          simp [IntKind.wrap, IntKind.bits, IntKind.signed]
          omega
        rw [hwr]
        change wpList _ _ _ _ _ wr.drew
        have hbd : Below wr.heap.size wr wr.drew := (Below.refl _ wr).drew
        obtain ⟨f1, ⟨u, c1⟩, hJ2, hb2, c3⟩ := win_store hJ hn0 HQ.out HW.out (hJ _ _ _ hJk (StX.below hbd hn0w)) (hbx.below hbd)
        have hc11 : wr.drew.cell? ⟨B1, 0, none⟩ = some (.pointer (some ⟨gb, ob, none⟩)) := hc1
        have hcs1 : ∀ i y, x[i]? = some y → wr.drew.cell? ⟨gb, ob + i, none⟩ = some (B8 y) := hcs
        have hw1 : W.heap.size < wr.drew.heap.size := hBw
        generalize wr.drew = w1 at *
        have hc12 := (World.cell?_setCell_other w1 ⟨W.heap.size, p16, none⟩ ⟨B1, 0, none⟩ (.int .u32 (y : Int)) (by intro e; injection e; omega)).trans hc11
        have hcs2 : ∀ i z, x[i]? = some z → (w1.setCell ⟨W.heap.size, p16, none⟩ (.int .u32 (y : Int))).cell? ⟨gb, ob + i, none⟩ = some (B8 z) := fun i z h => (World.cell?_setCell_other w1 ⟨W.heap.size, p16, none⟩ ⟨gb, ob + i, none⟩ (.int .u32 (y : Int)) (by intro e; injection e; omega)).trans (hcs1 i z h)
        clear hJk hbx hc1 hcs hBw hn0w hc11 hcs1 S0 S1 f15 f7 f2 e15 e7 e2 k15 k7 k2 hbd hwr c16 c15 c7 c2
        go_wp2_with fail
        obtain ⟨fn, tmps, assign, body, hyy, hR⟩ := hY _ y _ hJ2 ⟨by rw [HL.out]; exact hlt, by rw [HL.out]; exact HW.out⟩
        rw [← HN.out] at hR
        rw [HL.out] at hyy
        have HB2 := Lib.hid hb2
        have HC1 := Lib.hid hc12
        have HCS := Lib.hid hcs2
        clear hJ2 hb2 hc12 hcs2 hY
        gi_wp2
        refine ⟨fun h => (by cases h), hR.mono ?_⟩
        rintro e W3 (⟨rfl, hJ3, hk3⟩ | ⟨rfl, hJx3, hk3⟩)
        · have hb3 := hk3.box (by omega) HB2.out
          have hc13 := hk3.cell (p := ⟨B1, 0, none⟩) h1x HC1.out
          have hcs3 : ∀ i y, x[i]? = some y → W3.cell? ⟨gb, ob + i, none⟩ = some (B8 y) := fun i y h => hk3.cell (p := ⟨gb, ob + i, none⟩) hgx (HCS.out i y h)
          clear hyy hk3
          gi_wp2
          go_roundw
          case rel => exact ⟨k + 1, by omega, by go_num, hJ3, hb3, hc13, hcs3⟩
          case measure => simp [intOf]; omega
        · clear hyy hk3
          gi_wp2
          refine bodyPost_ret (results_none rfl _ _ _) rfl ?_
          exact ⟨⟨_, rfl⟩, .inr ⟨_, trivial, hJx3⟩⟩

set_option maxHeartbeats 400000 in
/-- rounds(block): the block's pointer is boxed; the function value captures the box. -/
theorem rounds_in (n : Nat) (gb ob : Nat) (w : World) :
    CallsIn Fence.wide n Tryz.prog 116 #[.pointer (some ⟨gb, ob, none⟩)] w fun e w' => e = .returned (.func (.func 151) #[] #[.pointer (some ⟨w.heap.size, 0, none⟩)]) ∧ w' = w.alloc (.cells #[.pointer (some ⟨gb, ob, none⟩)] 177) := by
  refine callsIn_of_wp Tryz.func116 rfl trivial ?_ rfl
  simp only [Tryz.ntmps116, List.size_toArray, List.length_cons, List.length_nil, Nat.reduceAdd, Nat.reduceSub, Array.replicate_succ, Array.replicate_zero, List.push_toArray, List.append_toArray, List.nil_append, List.cons_append]
  gi_wp2
  go_ret
  exact ⟨rfl, rfl⟩

theorem rounds_seq (n : Nat) (B1 gb ob Bx : Nat) (x : List UInt8) (hx : x.length = 64) (w : World) (hBx : Bx < w.heap.size) (hB1 : w.cell? ⟨B1, 0, none⟩ = some (.pointer (some ⟨gb, ob, none⟩))) (h1x : B1 ≠ Bx) (hgx : gb ≠ Bx) (hcells : ∀ i y, x[i]? = some y → w.cell? ⟨gb, ob + i, none⟩ = some (B8 y)) :
    SeqSt Fence.wide n Tryz.prog 151 #[.pointer (some ⟨B1, 0, none⟩)] (fun (pre : List Nat) (y : Nat) => #[.int .i64 (pre.length : Int), .int .u32 (y : Int)]) (StX w.heap.size) (KpX Bx) (fun pre y => pre.length < 64 ∧ y = (words x).getD pre.length 0)
      (fun ys _ => ys = words x) (fun _ _ => True) w := fun l J Jx W hW hJs hY h0 =>
  (rounds1_in n l B1 gb ob Bx w.heap.size x hx J Jx hJs hY W hW.size hBx ((hW.cell (p := ⟨B1, 0, none⟩) (World.block_lt_of_cell? _ _ hB1)).trans hB1) h1x hgx (fun i y h => (hW.cell (p := ⟨gb, ob + i, none⟩) (World.block_lt_of_cell? _ _ (hcells i y h))).trans (hcells i y h)) h0).mono
    (fun _ _ h => h)
end Go.Proofs.YtljihmbmjpcfaaaGreat
namespace Go.Proofs.YtljihmbmjpcfaaaGreat
open Go.RowKit Go.Shelf Go.Great
attribute [local go_sem] Oper.semAt_some
set_option maxRecDepth 100000

/-- The first i words laid over those of the chain. -/
def addUp (c t : List Nat) (i : Nat) : List Nat := (List.zipWith (fun p q => (p + q) % 4294967296) c t).take i ++ t.drop i
theorem fold2h (t : Array Value) (p q : Nat) (u v : Value) : Array.foldl (fun (t : Array Value) (x : Nat × Value) => t.setIfInBounds x.fst x.snd) t (#[p, q].zip #[u, v]) = (t.setIfInBounds p u).setIfInBounds q v := by simp
theorem addUp_zero (c t : List Nat) : addUp c t 0 = t := by simp [addUp]
theorem addUp_length (c t : List Nat) (hc : c.length = 8) (ht : t.length = 8) {i : Nat} (hi : i ≤ 8) : (addUp c t i).length = 8 := by
  simp [addUp, hc, ht]
  omega
theorem addUp_all (c t : List Nat) (hc : c.length = 8) (ht : t.length = 8) : addUp c t 8 = List.zipWith (fun p q => (p + q) % 4294967296) c t := by
  rw [addUp, List.take_of_length_le (by simp [hc, ht]), List.drop_eq_nil_of_le (by omega), List.append_nil]
theorem addUp_get (c t : List Nat) (hc : c.length = 8) (ht : t.length = 8) {i : Nat} (hi : i < 8) : (addUp c t i)[i]? = some (t.getD i 0) := by
  rw [addUp, List.getElem?_append_right (by simp [hc, ht]; omega), List.getElem?_drop, List.getD_eq_getElem?_getD]
  simp only [List.length_take, List.length_zipWith, hc, ht]
  rw [show i + (i - min i (min 8 8)) = i by omega, List.getElem?_eq_getElem (by omega)]
  rfl
theorem addUp_set (c t : List Nat) (hc : c.length = 8) (ht : t.length = 8) {i : Nat} (hi : i < 8) : (addUp c t i).set i ((t.getD i 0 + c.getD i 0) % 4294967296) = addUp c t (i + 1) := by
  have hl : ((List.zipWith (fun p q => (p + q) % 4294967296) c t).take i).length = i := by simp [hc, ht]; omega
  rw [addUp, addUp, List.set_append_right _ _ (by omega), hl, Nat.sub_self, List.take_add_one, List.append_assoc]
  congr 1
  have e : (List.zipWith (fun p q => (p + q) % 4294967296) c t)[i]? = some ((t.getD i 0 + c.getD i 0) % 4294967296) := by
    rw [List.getElem?_zipWith, List.getElem?_eq_getElem (by omega), List.getElem?_eq_getElem (by omega), List.getD_eq_getElem?_getD, List.getD_eq_getElem?_getD, List.getElem?_eq_getElem (by omega), List.getElem?_eq_getElem (by omega)]
    simp [Nat.add_comm]
  rw [e, List.drop_eq_getElem_cons (by omega)]
  rfl
/-- What the work is behind r rounds. -/
def workAt (c : List Nat) (x : List UInt8) (r : Nat) : List Nat := if r < 64 then (stateUp c (words x) r).list else List.zipWith (fun p q => (p + q) % 4294967296) c (stateUp c (words x) 64).list
theorem eight_length (s : Eight) : s.list.length = 8 := rfl
theorem workAt_length (c : List Nat) (x : List UInt8) (hc : c.length = 8) (r : Nat) : (workAt c x r).length = 8 := by
  unfold workAt
  split
  · rfl
  · rw [List.length_zipWith, hc]
    rfl
theorem eight_of (c : List Nat) (hc : c.length = 8) : (Eight.of c).list = c := by
  match c, hc with
  | [_, _, _, _, _, _, _, _], _ => rfl
theorem stateUp_ok (c W : List Nat) (hc : ∀ y ∈ c, y < 4294967296) (hc8 : c.length = 8) : ∀ r, (stateUp c W r).Ok
  | 0 => by
    match c, hc8 with
    | [a, b, d, e, f, g, h, i], _ =>
      simp only [List.mem_cons, List.not_mem_nil, or_false, forall_eq_or_imp, forall_eq] at hc
      obtain ⟨h1, h2, h3, h4, h5, h6, h7, h8⟩ := hc
      exact ⟨h1, h2, h3, h4, h5, h6, h7, h8⟩
  | r + 1 => roundN_ok (stateUp_ok c W hc hc8 r) _
theorem KpX.of_below {Bx : Nat} {A B C : World} (h : KpX Bx A B) (k : Below A.heap.size B C) : KpX Bx A C :=
  ⟨Nat.le_trans h.size k.size, fun j o hj ho hne => (k.block j (Array.getElem?_eq_some_iff.1 hj).1).trans (h.same j o hj ho hne)⟩
theorem KpX.of_grown {Bx : Nat} {A B C : World} {row : Option Nat} (h : KpX Bx A B) (hg : B.grownBy C row) (hr : ∀ r, row = some r → A.heap.size ≤ r ∧ ∃ o : Obj, B.heap[r]? = some o ∧ o.isCells = false) : KpX Bx A C :=
  ⟨Nat.le_trans h.size hg.size, fun j o hj ho hne => by
    have hj2 := h.same j o hj ho hne
    refine (hg.block j (Array.getElem?_eq_some_iff.1 hj2).1 (fun e => ?_)).trans hj2
    have h1 := (hr j e.symm).1
    have h2 := (Array.getElem?_eq_some_iff.1 hj).1
    omega⟩
theorem keptX {b B : Nat} {W w4 : World} (h : Kept (· = b) W w4) (hb : b < B) : KpX b W w4 ∧ KeepsFrom B W w4 :=
  ⟨⟨h.size, fun j o hj _ hne => (h.block j (Array.getElem?_eq_some_iff.1 hj).1 hne).trans hj⟩, ⟨h.size, fun j o hB hj _ => (h.block j (Array.getElem?_eq_some_iff.1 hj).1 (by show ¬ j = b; omega)).trans hj⟩⟩
/-- What holds behind each round. -/
structure RoundI (w5 w : World) (Bx : Nat) (c : List Nat) (x : List UInt8) (hc : c.length = 8) (pre : List Nat) (W : World) : Prop where
  kp : KpX Bx w5 W
  box : ∀ k, k = pre.length → BoxE eCh 114 W Bx ⟨workAt c x k, workAt_length c x hc k⟩
  below : Below w.heap.size w W
theorem roundI_own (w5 w : World) (Bx : Nat) (c : List Nat) (x : List UInt8) (hc : c.length = 8) (hw : w.heap.size ≤ w5.heap.size) (hBx : Bx < w5.heap.size) : OwnFrom w5.heap.size (RoundI w5 w Bx c x hc) := fun pre W W' row h hg hr => by
  refine ⟨h.kp.of_grown hg hr, ?_, ?_⟩
  · intro k hk
    exact (hg.block Bx (h.box k hk).lt (fun e => by have := (hr Bx e.symm).1; omega)).trans (h.box k hk)
  · exact h.below.grown hg (Nat.le_trans hw h.kp.size) (fun k e => Nat.le_trans hw (hr k e).1)

set_option maxHeartbeats 400000 in
theorem with_any (w : World) (c : Ch) (hc : ∀ y ∈ c.l, y < 4294967296) (gb ob gk ok : Nat) (x : List UInt8) (hx : x.length = 64) (hcells : ∀ i y, x[i]? = some y → w.cell? ⟨gb, ob + i, none⟩ = some (B8 y)) (hk : ElAt eCn w gk ok cnAll) :
    Calls Tryz.prog 84 #[eCh.val c, .pointer (some ⟨gb, ob, none⟩), .pointer (some ⟨gk, ok, none⟩)] w fun e W' => e = .returned (eCh.val ⟨workAt c.l x 64, workAt_length c.l x c.h 64⟩) ∧ Below w.heap.size w W' := by
  have hgb : gb < w.heap.size := World.block_lt_of_cell? _ _ (hcells 0 (x[0]'(by omega)) (List.getElem?_eq_getElem _))
  have hk0 := CnAt.rounds hk (i := 0) (y := shaK.getD 0 0) rfl
  have hgk : gk < w.heap.size := World.block_lt_of_cell? _ _ hk0
  clear hk0
  refine (callsIn_wide (n := 3)).1 ?_
  refine callsIn_of_wp_marks Tryz.func84 rfl trivial ?_ rfl
  simp only [Tryz.ntmps84, List.size_toArray, List.length_cons, List.length_nil, Nat.reduceAdd, Nat.reduceSub, Array.replicate_succ, Array.replicate_zero, List.push_toArray, List.append_toArray, List.nil_append, List.cons_append]
  refine wpIn_wide.2 ?_
  go_wp2_with (first
    | (refine wpList_box_e (E := eCh) rfl (.tmp 0) rfl rfl ?_; intro w1 z1 hB1)
    | (refine wpList_alloc_e (E := eCh) zeroCh_run rfl rfl ?_))
  have hs1 := z1.lt
  have hB2 := hB1.alloc hB1.size (.cells #[.pointer (some ⟨gk, ok, none⟩)] 123)
  have hB3 := hB2.alloc (by simp; omega) (.cells (eCh.enc zeroCh).toArray 114)
  have z1a := z1.below ((Below.refl _ w1).alloc (Nat.le_refl _) (.cells #[.pointer (some ⟨gk, ok, none⟩)] 123))
  have z1b := z1a.below ((Below.refl _ _).alloc (Nat.le_refl _) (.cells (eCh.enc zeroCh).toArray 114))
  have z6 := BoxE.new (E := eCh) (t := 114) (w1.alloc (.cells #[.pointer (some ⟨gk, ok, none⟩)] 123)) zeroCh
  have p5 : ((w1.alloc (.cells #[.pointer (some ⟨gk, ok, none⟩)] 123)).alloc (.cells (eCh.enc zeroCh).toArray 114)).cell? ⟨w1.heap.size, 0, none⟩ = some (.pointer (some ⟨gk, ok, none⟩)) := by go_simp
  have hs3 : ((w1.alloc (.cells #[.pointer (some ⟨gk, ok, none⟩)] 123)).alloc (.cells (eCh.enc zeroCh).toArray 114)).heap.size = w1.heap.size + 2 := by simp
  rw [World.size_alloc] at z6
  simp only [World.size_alloc]
  generalize ((w1.alloc (.cells #[.pointer (some ⟨gk, ok, none⟩)] 123)).alloc (.cells (eCh.enc zeroCh).toArray 114)) = w3 at *
  clear hB2 z1a z1 hB1
  generalize w1.heap.size = s1 at *
  clear w1
  refine wp_scope_straight ?_
  go_wp2_with (first
    | (refine wpList_load_e (E := eCh) Tryz.underlying114 rfl sizeCh rfl (.tmp 3) rfl rfl z1b.at ?_)
    | (refine wpList_alloc_e (E := eCh) zeroCh_run rfl rfl ?_
       have z1c := z1b.below ((Below.refl _ w3).alloc (Nat.le_refl _) (.cells (eCh.enc zeroCh).toArray 114))
       have z6c := z6.below ((Below.refl _ w3).alloc (Nat.le_refl _) (.cells (eCh.enc zeroCh).toArray 114))
       have z7 := BoxE.new (E := eCh) (t := 114) w3 zeroCh
       have hB4 := hB3.alloc (by omega) (.cells (eCh.enc zeroCh).toArray 114)
       have p5c := (((Below.refl _ w3).alloc (Nat.le_refl _) (.cells (eCh.enc zeroCh).toArray 114)).cell (p := ⟨s1, 0, none⟩) (by show s1 < w3.heap.size; omega)).trans p5
       have hs4 : (w3.alloc (.cells (eCh.enc zeroCh).toArray 114)).heap.size = s1 + 3 := by rw [World.size_alloc]; omega
       rw [hs3] at z7 ⊢
       generalize w3.alloc (.cells (eCh.enc zeroCh).toArray 114) = w4 at *)
    | (refine wpList_store_e (E := eCh) (u := c) sizeCh rfl (.tmp 7) (.tmp 11) rfl rfl z7 rfl ?_; intro w5 z8 k5))
  have z1d := z1c.kept k5 (by omega)
  have z6d := z6c.kept k5 (by omega)
  have p5d := (k5.cell (p := ⟨s1, 0, none⟩) (by show s1 < w4.heap.size; omega) (by show ¬ s1 = s1 + 2; omega)).trans p5c
  have hB5 := hB4.trans (k5.below (B := w.heap.size) (fun j _ e => by omega) hB4.size)
  have hs5 : s1 + 3 ≤ w5.heap.size := by
    have h1 := k5.size
    omega
  refine wp_label ?_
  go_wp2_with fail
  refine ((callsIn_wide (n := 3)).1 (rounds_in 3 gb ob _)).mono ?_
  rintro e w6' ⟨rfl, rfl⟩
  go_simp
  -- ahead of the loop
  have hA := (Below.refl _ w5).alloc (Nat.le_refl _) (.cells #[.pointer (some ⟨gb, ob, none⟩)] 177)
  have z1 := z1d.below hA
  have z6 := z6d.below hA
  have z7 := z8.below hA
  have p5 := (hA.cell (p := ⟨s1, 0, none⟩) (by show s1 < w5.heap.size; omega)).trans p5d
  have q5 : (w5.alloc (.cells #[.pointer (some ⟨gb, ob, none⟩)] 177)).cell? ⟨w5.heap.size, 0, none⟩ = some (.pointer (some ⟨gb, ob, none⟩)) := by go_simp
  have hB6 := hB5.alloc hB5.size (.cells #[.pointer (some ⟨gb, ob, none⟩)] 177)
  have hs6 : (w5.alloc (.cells #[.pointer (some ⟨gb, ob, none⟩)] 177)).heap.size = w5.heap.size + 1 := by rw [World.size_alloc]
  generalize (w5.alloc (.cells #[.pointer (some ⟨gb, ob, none⟩)] 177)) = w6 at *
  clear hA z1d z6d z8 p5d hB5 z1c z6c p5c hB4 z1b hB3 k5
  generalize w5.heap.size = s5 at *
  have hcells6 : ∀ i y, x[i]? = some y → w6.cell? ⟨gb, ob + i, none⟩ = some (B8 y) := fun i y h => (hB6.cell (p := ⟨gb, ob + i, none⟩) hgb).trans (hcells i y h)
  have hk6 : ElAt eCn w6 gk ok cnAll := hk.below hB6
  go_wp2_with fail
  refine (wpIn_wide (n := 3)).1 ?_
  refine wpIn_rangeFunc_st rfl (by omega) (gf := 151) (lb := #[.pointer (some ⟨s5, 0, none⟩)]) rfl trivial (enters_of Tryz.func151 (by kernel_rfl) rfl)
    (rounds_seq 2 s5 gb ob (s1 + 2) x hx w6 (by omega) q5 (by omega) (by omega) hcells6) (fun h k => h.trans k) (fun _ _ _ _ _ h1 h2 => KpX.putObj h1 h2) (fun _ _ h => h.2) (fun _ _ => by rfl)
    (fun _ _ _ _ h _ _ => h) (fun _ _ _ _ h _ _ => h)
    (RoundI w6 w (s1 + 2) c.l x c.h) (fun _ _ _ => False) (roundI_own _ _ _ _ _ _ (by omega) (by omega)) (fun _ _ _ _ _ h _ _ => h)
    (fun s A B h hst => ⟨h.kp.of_below hst.1, fun k hk => (hst.1.block (s1 + 2) (by omega)).trans (h.box k hk), h.below.trans (hst.1.mono (by omega))⟩)
    ?start
    (fun pre y => { tmps := #[eCh.val c, .pointer (some ⟨gb, ob, none⟩), .pointer (some ⟨gk, ok, none⟩), .pointer (some ⟨w.heap.size, 0, none⟩), undef, .pointer (some ⟨s1, 0, none⟩), .pointer (some ⟨s1 + 1, 0, none⟩), .pointer (some ⟨s1 + 2, 0, none⟩), .int .i64 (pre.length : Int), .int .u32 (y : Int), undef, eCh.val c, .pointer (some ⟨gb, ob, none⟩), .func (.func 151) #[] #[.pointer (some ⟨s5, 0, none⟩)], .int .i64 (pre.length : Int), .int .u32 (y : Int), undef, undef, undef, undef, undef, undef, undef, undef, undef, undef, undef, undef, undef, undef, undef, undef, undef, undef, undef, undef, undef, undef, undef, undef, undef], defers := [] }) ?assign ?body ?done ?stop
  case start =>
    refine ⟨⟨Nat.le_refl _, fun _ _ h _ _ => h⟩, ?_, hB6⟩
    rintro k rfl
    have e : ∀ h, (⟨workAt c.l x 0, h⟩ : Ch) = c := fun _ => by
      cases c with
      | mk l h =>
        have : workAt l x 0 = l := eight_of l h
        congr 1
    show BoxE eCh 114 w6 (s1 + 2) ⟨workAt c.l x 0, _⟩
    rw [e]
    exact z7
  case assign =>
    intro l pre y W K hK
    gi_wp2
    exact hK
  case stop =>
    rintro D c' pre W _ _ h _
    exact h.elim
  case done =>
    intro D ys W hD hys hI hK
    have b7 := hI.box 64 (by rw [hys]; exact (words_length x).symm)
    clear hys
    have b6 := hI.kp.box (by omega) z6
    have hBW := hI.below
    go_wp2_with (first
      | (refine wpList_load_e (E := eCh) Tryz.underlying114 rfl sizeCh rfl (.tmp 7) rfl rfl b7.at ?_)
      | (refine wpList_store_e (E := eCh) (u := ⟨workAt c.l x 64, workAt_length c.l x c.h 64⟩) sizeCh rfl (.tmp 6) (.tmp 40) rfl rfl b6 rfl ?_; intro w8 y8 k8))
    have hD8 : w8.heap[D]? = some (.deferred (some [])) := (k8.block D (Array.getElem?_eq_some_iff.1 hK).1 (by show ¬ D = s1 + 1; omega)).trans hK
    refine ⟨by simp, .inl ⟨_, _, rfl, run_takeDeferred hD8, ?_⟩⟩
    have y9 : BoxE eCh 114 (w8.putObj D (.deferred none)) (s1 + 1) ⟨workAt c.l x 64, workAt_length c.l x c.h 64⟩ := (World.putObj_heap_other (show s1 + 1 ≠ D by omega)).trans y8
    have hB8 := hBW.trans (k8.below (B := w.heap.size) (fun j _ e => by omega) hBW.size)
    exact ⟨_, results_e1 (E := eCh) Tryz.underlying114 rfl sizeCh rfl _ rfl y9, rfl, hB8.trans (belowK_b (w := w) (Nat.le_refl _) w8 D _ _ (by have := hB6.size; omega) hD8 rfl rfl)⟩
  case body =>
    intro l pre y W hI hy
    obtain ⟨hlen, hy⟩ := hy
    obtain ⟨r, hr⟩ : ∃ r, r = pre.length := ⟨_, rfl⟩
    rw [← hr] at hlen hy ⊢
    have b7 := hI.box r hr
    have hS : workAt c.l x r = (stateUp c.l (words x) r).list := by unfold workAt; rw [if_pos hlen]
    have hOk := stateUp_ok c.l (words x) hc c.h r
    have b7' : BoxE eCh 114 W (s1 + 2) (ch8 (stateUp c.l (words x) r)) := by
      have e : ∀ h, (⟨workAt c.l x r, h⟩ : Ch) = ch8 (stateUp c.l (words x) r) := fun _ => by
        unfold ch8
        congr 1
      rw [e] at b7
      exact b7
    have p5' := hI.kp.cell (p := ⟨s1, 0, none⟩) (by show s1 ≠ s1 + 2; omega) p5
    have hkk := CnAt.rounds hk6 (i := r) (y := shaK.getD r 0) (by show shaK[r]? = _; rw [List.getD_eq_getElem?_getD, List.getElem?_eq_getElem (by rw [shaK_length]; exact hlen)]; rfl)
    have hkk' := hI.kp.cell (p := ⟨gk, ok + 8 + r, none⟩) (by show gk ≠ s1 + 2; omega) hkk
    have z1' := hI.kp.box (by omega) z1
    have hsum : IntKind.u32.wrap ((y : Int) + ((shaK.getD r 0 : Nat) : Int)) = (((y + shaK.getD r 0) % 4294967296 : Nat) : Int) := by
      simp [IntKind.wrap, IntKind.bits, IntKind.signed]
    have hnext : stateUp c.l (words x) (r + 1) = roundN (stateUp c.l (words x) r) ((y + shaK.getD r 0) % 4294967296) := by rw [stateUp, hy]
    generalize shaK.getD r 0 = kr at hkk' hsum hnext
    generalize stateUp c.l (words x) r = st at b7' hOk hnext
    have hTn := turned_any W.drew st hOk ((y + kr) % 4294967296)
    rw [← hnext] at hTn
    have hsum2 : ((y : Int) + (kr : Int)) % 4294967296 = (((y + kr) % 4294967296 : Nat) : Int) := by omega
    generalize (y + kr) % 4294967296 = m at hTn hsum hsum2
    clear hnext
    have HR := Lib.hid hr
    have HY := Lib.hid hy
    clear b7 hS hkk hr hy
    have hri : (r : Int) < 64 := by omega
    have b7d : BoxE eCh 114 W.drew (s1 + 2) (ch8 st) := b7'
    have p5d : W.drew.cell? ⟨s1, 0, none⟩ = some (.pointer (some ⟨gk, ok, none⟩)) := p5'
    have hkd : W.drew.cell? ⟨gk, ok + 8 + r, none⟩ = some (.int .u32 (kr : Int)) := hkk'
    gi_wp2
    refine wpIn_round_still 9 (by kernel_rfl) (by kernel_rfl) (by kernel_rfl) ?_
    simp only [List.take_succ_cons, List.take_zero, List.drop_succ_cons, List.drop_zero]
    refine wpStill_value rfl _ (exec_load_el (E := eCh) Tryz.underlying114 rfl sizeCh rfl rfl b7d.at) ?_
    repeat still_step
    refine wpStill_nil ?_
    clear hsum hsum2
    go_wp2_with fail
    refine hTn.mono ?_
    rintro e w3 ⟨rfl, hb3⟩
    go_simp
    have hb3' : Below W.heap.size W w3 := ⟨hb3.os, hb3.tape, hb3.output, hb3.size, hb3.block⟩
    go_wp2_with (refine wpList_store_e (E := eCh) (u := ch8 (stateUp c.l (words x) (r + 1))) sizeCh rfl (.tmp 7) (.tmp 25) rfl rfl (b7'.below hb3') rfl ?_; intro w4 y4 k4)
    have hK4 : Kept (· = s1 + 2) W w4 := (Kept.of_below hb3' (Nat.le_refl _) (· = s1 + 2)).same k4
    have z14 : BoxE eCh 114 w4 w.heap.size c := z1'.kept hK4 (by omega)
    clear hb3 hb3' hTn b7d p5d hkd hkk' p5' z1' b7' k4
    simp only [only, Exit.then]
    have hkx : KpX (s1 + 2) W w4 ∧ KeepsFrom w6.heap.size W w4 := keptX hK4 (by omega)
    by_cases h63 : r < 63
    · have h63i : (r : Int) < 63 := by omega
      gi_wp2
      refine ⟨hkx.2, hkx.1, hI.kp.trans hkx.1, ?_, hI.below.trans (hK4.below (B := w.heap.size) (fun j _ e => by omega) hI.below.size)⟩
      intro k hk
      rw [List.length_append, List.length_singleton, ← HR.out] at hk
      subst hk
      have e : ∀ h, (⟨workAt c.l x (r + 1), h⟩ : Ch) = ch8 (stateUp c.l (words x) (r + 1)) := fun _ => by
        have : workAt c.l x (r + 1) = (stateUp c.l (words x) (r + 1)).list := by unfold workAt; rw [if_pos (by omega)]
        unfold ch8
        congr 1
      rw [e]
      exact y4
    · have h63i : ¬ (r : Int) < 63 := by omega
      obtain rfl : r = 63 := by omega
      gi_wp2
      generalize ht : stateUp c.l (words x) (63 + 1) = t at y4
      have HT := Lib.hid ht
      clear ht
      have hc8 := c.h
      gi_loopw [28] (fun p wr => ∃ i : Nat, i ≤ 8 ∧ p = .int .i64 (i : Int) ∧ (∀ h, BoxE eCh 114 wr (s1 + 2) ⟨addUp c.l t.list i, h⟩) ∧ Kept (· = s1 + 2) W wr) (fun p _ => 8 - (intOf p).toNat)
      case atStart =>
        refine ⟨0, by omega, rfl, ?_, hK4⟩
        intro h
        have e : (⟨addUp c.l t.list 0, h⟩ : Ch) = ch8 t := by
          unfold ch8
          congr 1
        rw [e]
        exact y4
      case round =>
        obtain ⟨i, hi, rfl, hbox, hKi⟩ := hrel
        by_cases hlt : i < 8
        case neg =>
          obtain rfl : i = 8 := by omega
          have hkx2 : KpX (s1 + 2) W wr ∧ KeepsFrom w6.heap.size W wr := keptX hKi (by omega)
          gi_wp2
          refine ⟨hkx2.2, hkx2.1, hI.kp.trans hkx2.1, ?_, hI.below.trans (hKi.below (B := w.heap.size) (fun j _ e => by omega) hI.below.size)⟩
          intro k hk
          rw [List.length_append, List.length_singleton, ← HR.out] at hk
          subst hk
          have e : ∀ h h', (⟨workAt c.l x (63 + 1), h⟩ : Ch) = ⟨addUp c.l t.list 8, h'⟩ := fun _ _ => by
            have : workAt c.l x (63 + 1) = addUp c.l t.list 8 := by
              unfold workAt
              rw [if_neg (by omega), addUp_all c.l t.list hc8 rfl, ← HT.out]
            congr 1
          rw [e _ (addUp_length c.l t.list hc8 rfl (by omega))]
          exact hbox _
        case pos =>
          have hli : (i : Int) < 8 := by omega
          have hb := hbox (addUp_length c.l t.list hc8 rfl hi)
          have c1 := ChAt.at hb.at (addUp_get c.l t.list hc8 rfl hlt)
          rw [Nat.zero_add] at c1
          have z15 : BoxE eCh 114 wr w.heap.size c := (hI.kp.box (by omega) z1).kept hKi (by omega)
          have c2 := ChAt.at z15.at (i := i) (y := c.l.getD i 0) (by rw [List.getD_eq_getElem?_getD, List.getElem?_eq_getElem (by omega)]; rfl)
          rw [Nat.zero_add] at c2
          have hput : ∀ h, BoxE eCh 114 (wr.setCell ⟨s1 + 2, i, none⟩ (.int .u32 (((t.list.getD i 0 + c.l.getD i 0) % 4294967296 : Nat) : Int))) (s1 + 2) ⟨addUp c.l t.list (i + 1), h⟩ := fun h => by
            refine hb.put _ ?_
            show (wds (addUp c.l t.list i)).set i _ = wds (addUp c.l t.list (i + 1))
            rw [wds_set, addUp_set c.l t.list hc8 rfl hlt]
          have hKs : Kept (· = s1 + 2) W (wr.setCell ⟨s1 + 2, i, none⟩ (.int .u32 (((t.list.getD i 0 + c.l.getD i 0) % 4294967296 : Nat) : Int))) := hKi.setCell (p := ⟨s1 + 2, i, none⟩) (fun _ => rfl) _
          have hfr := hb.frozen i
          generalize t.list.getD i 0 = ti at c1 hput hKs
          generalize c.l.getD i 0 = ci at c2 hput hKs
          have hs1 : IntKind.u32.wrap ((ti : Int) + (ci : Int)) = (((ti + ci) % 4294967296 : Nat) : Int) := by
            simp [IntKind.wrap, IntKind.bits, IntKind.signed]
          have hs2 : ((ti : Int) + (ci : Int)) % 4294967296 = (((ti + ci) % 4294967296 : Nat) : Int) := by omega
          generalize (ti + ci) % 4294967296 = si at hs1 hs2 hput hKs
          have HPUT := Lib.hid hput
          have HKS := Lib.hid hKs
          have c1d : wr.drew.cell? ⟨s1 + 2, i, none⟩ = some (.int .u32 (ti : Int)) := c1
          have c2d : wr.drew.cell? ⟨w.heap.size, i, none⟩ = some (.int .u32 (ci : Int)) := c2
          have hfrd : wr.drew.frozen? ⟨s1 + 2, i, none⟩ = false := hfr
          clear hput hKs c1 c2 hfr hb hbox z15
          gi_wp2
          refine wpIn_round_still 8 (by kernel_rfl) (by kernel_rfl) (by kernel_rfl) ?_
          simp only [List.take_succ_cons, List.take_zero, List.drop_succ_cons, List.drop_zero]
          repeat still_step
          refine wpStill_nil ?_
          clear hs1 hs2
          go_wp2_with fail
          simp only [only]
          gi_wp2
          go_roundw
          case rel => exact ⟨i + 1, by omega, by go_num, HPUT.out, ⟨HKS.out.os, HKS.out.tape, HKS.out.output, HKS.out.size, HKS.out.block⟩⟩
          case measure => simp [intOf]; omega
end Go.Proofs.YtljihmbmjpcfaaaGreat
