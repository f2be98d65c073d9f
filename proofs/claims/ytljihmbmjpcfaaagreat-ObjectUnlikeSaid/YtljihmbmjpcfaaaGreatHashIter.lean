/- The iterator over a block's rounds: rounds$1. -/
import Derived.Test.YtljihmbmjpcfaaaGreatHashWord
import Derived.Test.YtljihmbmjpcfaaaGreatLebTaken
import Derived.Test.YtljihmbmjpcfaaaGreatRound
import Derived.StillTailTactics
import Derived.RangeFuncNested
import Derived.RangeFuncBound
import Derived.RangeFuncCalls
import Derived.RangeFuncLeaves
import Derived.RangeFuncBox
import Derived.OwnWalkIn
import Derived.TacticsInMore
import Derived.LoopNIn
import Derived.LoopIn
import Derived.Outline
namespace Go.Proofs.YtljihmbmjpcfaaaGreat
open Go.RowKit Go.Shelf
attribute [local go_sem] Oper.semAt_some

/-- What a round that writes into block Bx keeps: all other cells. -/
structure KpX (Bx : Nat) (A B : World) : Prop where
  size : A.heap.size ≤ B.heap.size
  same : ∀ j o, A.heap[j]? = some o → o.isCells = true → j ≠ Bx → B.heap[j]? = some o
theorem KpX.trans {Bx : Nat} {A B C : World} (h : KpX Bx A B) (k : KpX Bx B C) : KpX Bx A C :=
  ⟨Nat.le_trans h.size k.size, fun j o hj ho hne => k.same j o (h.same j o hj ho hne) ho hne⟩
theorem KpX.putObj {Bx : Nat} {W : World} {l : Nat} {o o' : Obj} (hl : W.heap[l]? = some o) (ho : o.isCells = false) : KpX Bx W (W.putObj l o') := by
  have hsz : (W.putObj l o').heap.size = W.heap.size := by simp [World.putObj]
  refine ⟨by omega, fun j u hj hu _ => (World.putObj_heap_other (fun e => ?_)).trans hj⟩
  subst e
  rw [hl] at hj
  cases hj
  rw [ho] at hu
  cases hu
theorem KpX.cell {Bx : Nat} {A B : World} (h : KpX Bx A B) {p : Addr} {v : Value} (hp : p.block ≠ Bx) (hc : A.cell? p = some v) : B.cell? p = some v := by
  have : ∃ o, A.heap[p.block]? = some o ∧ o.isCells = true := by
    have h2 := hc
    unfold World.cell? at h2
    split at h2
    · next c t f he => exact ⟨_, he, rfl⟩
    · cases h2
  obtain ⟨_, ho, hoc⟩ := this
  exact (World.cell?_of_block ((h.same _ _ ho hoc hp).trans ho.symm)).trans hc
theorem KpX.box {α : Type} {E : Elt α} {t : TypeId} {Bx g : Nat} {A B : World} {x : α} (h : KpX Bx A B) (hg : g ≠ Bx) (hb : BoxE E t A g x) : BoxE E t B g x := h.same g _ hb rfl hg
/-- What the iterator does of its own: what lay below n₀ stays. -/
def StX (n₀ : Nat) (A B : World) : Prop := Below n₀ A B ∧ KeepsOthers A B
theorem StX.trans {n₀ : Nat} {A B C : World} (h : StX n₀ A B) (k : StX n₀ B C) : StX n₀ A C := ⟨h.1.trans k.1, h.2.trans k.2⟩
theorem StX.below {n₀ : Nat} {A B : World} (h : Below A.heap.size A B) (hn : n₀ ≤ A.heap.size) : StX n₀ A B :=
  ⟨h.mono hn, ⟨h.size, fun k _ hk _ => (h.block k (Array.getElem?_eq_some_iff.1 hk).1).trans hk⟩⟩
theorem StX.set {n₀ : Nat} (A : World) {p : Addr} (u : Value) (hp : n₀ ≤ p.block) : StX n₀ A (A.setCell p u) := ⟨(Below.refl _ A).setCell hp u, KeepsOthers.setCell _ _ _⟩
abbrev win16 (x : List UInt8) (k : Nat) : W16 := ⟨win (words x) k, win_length _ _⟩
abbrev BoxW16 (W : World) (g : Nat) (x : W16) : Prop := BoxE eW16 247 W g x

theorem wrap_tmod {k : Nat} (hk : k < 64) (d : Int) (h0 : 0 ≤ d) (h1 : d ≤ (k : Int)) {p : Nat} (hp : ((k : Int) - d) % 16 = (p : Int)) : (IntKind.i64.wrap ((k : Int) - d)).tmod 16 = (p : Int) := by
  have hw : IntKind.i64.wrap ((k : Int) - d) = (k : Int) - d := by
    simp [IntKind.wrap, IntKind.bits, IntKind.signed]
    omega
  rw [hw, Int.tmod_eq_emod_of_nonneg (by omega), hp]
/-- What the store of a round's word leaves. -/
theorem win_store {n₀ Bw q k : Nat} {x : List UInt8} {J : List Nat → World → Prop} (hJ : ∀ s A B, J s A → StX n₀ A B → J s B) (hn0 : n₀ ≤ Bw) (hq : q = k % 16) {y : Nat} (hy : y = (words x).getD k 0) {w1 : World} (hJk : J ((words x).take k) w1) (hbx : BoxW16 w1 Bw (win16 x k)) :
    w1.frozen? ⟨Bw, q, none⟩ = false ∧ (∃ u : Nat, w1.cell? ⟨Bw, q, none⟩ = some (.int .u32 (u : Int))) ∧ J ((words x).take k) (w1.setCell ⟨Bw, q, none⟩ (.int .u32 (y : Int))) ∧
    BoxW16 (w1.setCell ⟨Bw, q, none⟩ (.int .u32 (y : Int))) Bw (win16 x (k + 1)) ∧
    (w1.setCell ⟨Bw, q, none⟩ (.int .u32 (y : Int))).cell? ⟨Bw, q, none⟩ = some (.int .u32 (y : Int)) := by
  have hq16 : q < 16 := by omega
  have h3 : BoxW16 (w1.setCell ⟨Bw, q, none⟩ (.int .u32 (y : Int))) Bw (win16 x (k + 1)) := by
    refine hbx.put _ ?_
    show (wds (win (words x) k)).set q _ = wds (win (words x) (k + 1))
    rw [wds_set, hq, hy, win_set]
  refine ⟨hbx.frozen q, ⟨_, by have := hbx.at q _ (wds_get (win_get? (words x) k hq16)); rwa [Nat.zero_add] at this⟩, hJ _ _ _ hJk (StX.set w1 (p := ⟨Bw, q, none⟩) _ hn0), h3, ?_⟩
  have := h3.at q _ (wds_get (win_get? (words x) (k + 1) hq16))
  rw [Nat.zero_add, if_pos (by omega), show k + 1 - 1 - (k + 1 - 1 - q) % 16 = k by omega, ← hy] at this
  exact this

set_option maxRecDepth 100000 in
set_option maxHeartbeats 2000000 in
theorem rounds1_in (n : Nat) (lp B1 gb ob Bx n₀ : Nat) (x : List UInt8) (hx : x.length = 64) (J Jx : List Nat → World → Prop)
    (hJ : ∀ s A B, J s A → StX n₀ A B → J s B)
    (hY : ∀ pre y W1, J pre W1 → (pre.length < 64 ∧ y = (words x).getD pre.length 0) → YieldAt Fence.wide (n - 1) Tryz.prog lp #[.int .i64 (pre.length : Int), .int .u32 (y : Int)] W1 fun e W' =>
      (e = .returned (.bool true) ∧ J (pre ++ [y]) W' ∧ KpX Bx W1 W') ∨ (e = .returned (.bool false) ∧ Jx (pre ++ [y]) W' ∧ KpX Bx W1 W'))
    (W : World) (hn0 : n₀ ≤ W.heap.size) (hBx : Bx < n₀) (hB1 : W.cell? ⟨B1, 0, none⟩ = some (.pointer (some ⟨gb, ob, none⟩))) (h1x : B1 ≠ Bx) (hgx : gb ≠ Bx) (hcells : ∀ i y, x[i]? = some y → W.cell? ⟨gb, ob + i, none⟩ = some (B8 y)) (h0 : J [] W) :
    CallsIn Fence.wide n Tryz.prog 151 #[.func (.yield lp) #[] #[], .pointer (some ⟨B1, 0, none⟩)] W fun e W' => (∃ v, e = .returned v) ∧
      ((∃ ys, ys = words x ∧ J ys W') ∨ (∃ pre, True ∧ Jx pre W')) := by
  have hb1l : B1 < W.heap.size := World.block_lt_of_cell? _ _ hB1
  have hgbl : gb < W.heap.size := World.block_lt_of_cell? _ _ (hcells 0 (x[0]'(by omega)) (List.getElem?_eq_getElem _))
  have hA := (Below.refl W.heap.size W).alloc (Nat.le_refl _) (.cells (eW16.enc zero16).toArray 247)
  have hJ0 := hJ _ _ _ h0 (StX.below hA hn0)
  have hbx0 : BoxW16 (W.alloc (.cells (eW16.enc zero16).toArray 247)) W.heap.size (win16 x 0) := by
    have := BoxE.new (E := eW16) (t := 247) W zero16
    have e : win16 x 0 = zero16 := by
      unfold win16 zero16
      congr 1
    rw [e]
    exact this
  have hc1 := (hA.cell (p := ⟨B1, 0, none⟩) hb1l).trans hB1
  have hcs : ∀ i y, x[i]? = some y → (W.alloc (.cells (eW16.enc zero16).toArray 247)).cell? ⟨gb, ob + i, none⟩ = some (B8 y) := fun i y h => (hA.cell (p := ⟨gb, ob + i, none⟩) hgbl).trans (hcells i y h)
  refine callsIn_of_wp Tryz.func151 rfl trivial ?_ rfl
  simp only [Tryz.ntmps151, List.size_toArray, List.length_cons, List.length_nil, Nat.reduceAdd, Nat.reduceSub, Array.replicate_succ, Array.replicate_zero, List.push_toArray, List.append_toArray, List.nil_append, List.cons_append]
  gi_wp2
  rw [show (W.alloc (.cells #[.int .u32 0, .int .u32 0, .int .u32 0, .int .u32 0, .int .u32 0, .int .u32 0, .int .u32 0, .int .u32 0, .int .u32 0, .int .u32 0, .int .u32 0, .int .u32 0, .int .u32 0, .int .u32 0, .int .u32 0, .int .u32 0] 247)) = W.alloc (.cells (eW16.enc zero16).toArray 247) from rfl]
  have hsz : W.heap.size < (W.alloc (.cells (eW16.enc zero16).toArray 247)).heap.size := by simp
  generalize W.alloc (.cells (eW16.enc zero16).toArray 247) = w0 at *
  gi_loopw [6] (fun p wr => ∃ k : Nat, k ≤ 64 ∧ p = .int .i64 (k : Int) ∧ J ((words x).take k) wr ∧ BoxW16 wr W.heap.size (win16 x k) ∧ wr.cell? ⟨B1, 0, none⟩ = some (.pointer (some ⟨gb, ob, none⟩)) ∧ (∀ i y, x[i]? = some y → wr.cell? ⟨gb, ob + i, none⟩ = some (B8 y)))
    (fun p _ => 64 - (intOf p).toNat)
  case atStart => exact ⟨0, by omega, rfl, hJ0, hbx0, hc1, hcs⟩
  case round =>
    clear hJ0 hbx0 hc1 hcs hsz hA hB1 hcells h0
    obtain ⟨k, hk64, rfl, hJk, hbx, hc1, hcs⟩ := hrel
    by_cases hlt : k < 64
    case neg =>
      obtain rfl : k = 64 := by omega
      gi_wp2
      go_end0
      rw [List.take_of_length_le (by rw [words_length]; omega)] at hJk
      exact ⟨⟨_, rfl⟩, .inl ⟨_, rfl, hJk⟩⟩
    case pos =>
      have hlti : (k : Int) < 64 := by omega
      obtain ⟨q, hq⟩ : ∃ q, q = k % 16 := ⟨_, rfl⟩
      have hqi : (k : Int) % 16 = (q : Int) := by omega
      have hq16 : q < 16 := by omega
      have HQ := Lib.hid hq
      clear hq
      obtain ⟨y, hy⟩ : ∃ y, y = (words x).getD k 0 := ⟨_, rfl⟩
      have HW := Lib.hid hy
      have hlen : ((words x).take k).length = k := by rw [List.length_take, words_length]; omega
      have hnext : (words x).take (k + 1) = (words x).take k ++ [y] := by
        rw [List.take_add_one, List.getElem?_eq_getElem (by rw [words_length]; exact hlt), hy, List.getD_eq_getElem?_getD, List.getElem?_eq_getElem (by rw [words_length]; exact hlt)]
        rfl
      have HN := Lib.hid hnext
      have HL := Lib.hid hlen
      clear hy hlen hnext
      have hBw := hbx.lt
      have hn0w : n₀ ≤ wr.heap.size := by omega
      by_cases h16 : k < 16
      case pos =>
        have h16i : (k : Int) < 16 := by omega
        have hsl : (Instr.sliceAt 119 (.pointer (some ⟨gb, ob, none⟩)) (some (.int .i64 (4 * (k : Int)))) none none).run Tryz.prog wr = .ok (.slice (some ⟨gb, ob + 4 * k, none⟩) (64 - 4 * k) (64 - 4 * k)) wr := by
          have := slice_a64 wr gb ob (4 * k) (by omega)
          rwa [show ((4 * k : Nat) : Int) = 4 * (k : Int) by omega] at this
        have hg4 : ∀ j, j < 4 → ∃ y, x[4 * k + j]? = some y ∧ y = x.getD (4 * k + j) 0 := fun j hj => ⟨_, List.getElem?_eq_getElem (by omega), by rw [List.getD_eq_getElem?_getD, List.getElem?_eq_getElem (by omega)]; rfl⟩
        obtain ⟨y0, hy0, g0⟩ := hg4 0 (by omega)
        obtain ⟨y1, hy1, g1⟩ := hg4 1 (by omega)
        obtain ⟨y2, hy2, g2⟩ := hg4 2 (by omega)
        obtain ⟨y3, hy3, g3⟩ := hg4 3 (by omega)
        have CW := wordAt_any wr gb (ob + 4 * k) (64 - 4 * k) (64 - 4 * k) (by omega) y0 y1 y2 y3 (hcs _ _ hy0) (by rw [Nat.add_assoc]; exact hcs _ _ hy1) (by rw [Nat.add_assoc]; exact hcs _ _ hy2) (by rw [Nat.add_assoc]; exact hcs _ _ hy3)
        have hwv : y0.toNat * 16777216 + y1.toNat * 65536 + y2.toNat * 256 + y3.toNat = y := by
          rw [HW.out, words_get x hlt, if_pos h16, word4, g0, g1, g2, g3]
          rfl
        rw [hwv] at CW
        clear hwv hg4 hy0 hy1 hy2 hy3 g0 g1 g2 g3
        gi_wp2
        refine ⟨trivial, fun h => (by cases h), (callsIn_wide.2 CW).mono ?_⟩
        rintro e w1 ⟨rfl, hb1⟩
        have hcs1 : ∀ i y, x[i]? = some y → w1.cell? ⟨gb, ob + i, none⟩ = some (B8 y) := fun i y h => (hb1.cell (p := ⟨gb, ob + i, none⟩) (World.block_lt_of_cell? _ _ (hcs i y h))).trans (hcs i y h)
        have hc11 := (hb1.cell (p := ⟨B1, 0, none⟩) (World.block_lt_of_cell? _ _ hc1)).trans hc1
        obtain ⟨f1, ⟨u, c1⟩, hJ2, hb2, c2⟩ := win_store hJ hn0 HQ.out HW.out (hJ _ _ _ hJk (StX.below hb1 hn0w)) (hbx.below hb1)
        have hw1 : W.heap.size < w1.heap.size := Nat.lt_of_lt_of_le hBw hb1.size
        have hc12 := (World.cell?_setCell_other w1 ⟨W.heap.size, q, none⟩ ⟨B1, 0, none⟩ (.int .u32 (y : Int)) (by intro e; injection e; omega)).trans hc11
        have hcs2 : ∀ i z, x[i]? = some z → (w1.setCell ⟨W.heap.size, q, none⟩ (.int .u32 (y : Int))).cell? ⟨gb, ob + i, none⟩ = some (B8 z) := fun i z h => (World.cell?_setCell_other w1 ⟨W.heap.size, q, none⟩ ⟨gb, ob + i, none⟩ (.int .u32 (y : Int)) (by intro e; injection e; omega)).trans (hcs1 i z h)
        clear hJk hbx hc1 hcs hsl CW hBw hb1 hn0w hc11 hcs1
        obtain ⟨fn, tmps, assign, body, hyy, hR⟩ := hY _ y _ hJ2 ⟨by rw [HL.out]; exact hlt, by rw [HL.out]; exact HW.out⟩
        rw [← HN.out] at hR
        rw [HL.out] at hyy
        have HB2 := Lib.hid hb2
        have HC1 := Lib.hid hc12
        have HCS := Lib.hid hcs2
        clear hJ2 hb2 hc12 hcs2 hY
        gi_wp2
        refine ⟨fun h => (by cases h), hR.mono ?_⟩
        rintro e W3 (⟨rfl, hJ3, hk3⟩ | ⟨rfl, hJx3, hk3⟩)
        · have hb3 := hk3.box (by omega) HB2.out
          have hc13 := hk3.cell (p := ⟨B1, 0, none⟩) h1x HC1.out
          have hcs3 : ∀ i y, x[i]? = some y → W3.cell? ⟨gb, ob + i, none⟩ = some (B8 y) := fun i y h => hk3.cell (p := ⟨gb, ob + i, none⟩) hgx (HCS.out i y h)
          clear hyy hk3
          gi_wp2
          go_roundw
          case rel => exact ⟨k + 1, by omega, by go_num, hJ3, hb3, hc13, hcs3⟩
          case measure => simp [intOf]; omega
        · clear hyy hk3
          gi_wp2
          refine bodyPost_ret (results_none rfl _ _ _) rfl ?_
          exact ⟨⟨_, rfl⟩, .inr ⟨_, trivial, hJx3⟩⟩
      case neg =>
        have h16i : ¬ (k : Int) < 16 := by omega
        have hg : ∀ d, 1 ≤ d → d ≤ 16 → ∃ p a : Nat, p = (k - d) % 16 ∧ a = (words x).getD (k - d) 0 ∧ a < 4294967296 ∧ wr.cell? ⟨W.heap.size, p, none⟩ = some (.int .u32 (a : Int)) := fun d h1 h2 => by
          refine ⟨_, _, rfl, rfl, words_lt x (by omega), ?_⟩
          have := hbx.at _ _ (wds_get (win_back (words x) (by omega) h1 h2))
          rwa [Nat.zero_add] at this
        obtain ⟨p16, a16, hp16, ha16, l16, c16⟩ := hg 16 (by omega) (by omega)
        obtain ⟨p15, a15, hp15, ha15, l15, c15⟩ := hg 15 (by omega) (by omega)
        obtain ⟨p7, a7, hp7, ha7, l7, c7⟩ := hg 7 (by omega) (by omega)
        obtain ⟨p2, a2, hp2, ha2, l2, c2⟩ := hg 2 (by omega) (by omega)
        obtain rfl : p16 = q := by have := HQ.out; omega
        obtain ⟨sl, hsl⟩ : ∃ s, s = smallLow a15 := ⟨_, rfl⟩
        obtain ⟨sh, hsh⟩ : ∃ s, s = smallHigh a2 := ⟨_, rfl⟩
        have hy2 : y = (a16 + sl + a7 + sh) % 4294967296 := by rw [HW.out, words_get x hlt, if_neg h16, hsl, hsh, ha16, ha15, ha7, ha2]
        have HY2 := Lib.hid hy2
        have e15 : ((k : Int) - 15) % 16 = (p15 : Int) := by omega
        have e7 : ((k : Int) - 7) % 16 = (p7 : Int) := by omega
        have e2 : ((k : Int) - 2) % 16 = (p2 : Int) := by omega
        have f15 := wrap_tmod hlt 15 (by omega) (by omega) e15
        have f7 := wrap_tmod hlt 7 (by omega) (by omega) e7
        have f2 := wrap_tmod hlt 2 (by omega) (by omega) e2
        have g16 : (p16 : Int) < 16 := by omega
        have g15 : (p15 : Int) < 16 := by omega
        have g7 : (p7 : Int) < 16 := by omega
        have g2 : (p2 : Int) < 16 := by omega
        have k15 : (0 : Int) ≤ (k : Int) - 15 := by omega
        have k7 : (0 : Int) ≤ (k : Int) - 7 := by omega
        have k2 : (0 : Int) ≤ (k : Int) - 2 := by omega
        have S0 : ∀ W1, Calls Tryz.prog 153 #[.int .u32 (a15 : Int)] W1 fun e w' => e = .returned (.int .u32 (sl : Int)) ∧ w' = W1 := fun W1 => by rw [hsl]; exact (spread0_any W1 a15 l15).mono fun _ _ h => ⟨h.1, h.2.symm⟩
        have S1 : ∀ W1, Calls Tryz.prog 154 #[.int .u32 (a2 : Int)] W1 fun e w' => e = .returned (.int .u32 (sh : Int)) ∧ w' = W1 := fun W1 => by rw [hsh]; exact (spread1_any W1 a2 l2).mono fun _ _ h => ⟨h.1, h.2.symm⟩
        clear hg hp16 hp15 hp7 hp2 ha16 ha15 ha7 ha2 hsl hsh hy2
        gi_wp2
        refine wpIn_wide.2 ?_
        go_still_tail 24, (by kernel_rfl)
        still_call (S0 _)
        repeat still_step
        still_call (S1 _)
        repeat still_step
        refine wpStill_nil ?_
        have hwr : IntKind.u32.wrap ((a16 : Int) + IntKind.u32.wrap (IntKind.u32.wrap ((sl : Int) + (a7 : Int)) + (sh : Int))) = (y : Int) := by
          have := HY2.out
          simp [IntKind.wrap, IntKind.bits, IntKind.signed]
          omega
        rw [hwr]
        change wpList _ _ _ _ _ wr.drew
        have hbd : Below wr.heap.size wr wr.drew := (Below.refl _ wr).drew
        obtain ⟨f1, ⟨u, c1⟩, hJ2, hb2, c3⟩ := win_store hJ hn0 HQ.out HW.out (hJ _ _ _ hJk (StX.below hbd hn0w)) (hbx.below hbd)
        have hc11 : wr.drew.cell? ⟨B1, 0, none⟩ = some (.pointer (some ⟨gb, ob, none⟩)) := hc1
        have hcs1 : ∀ i y, x[i]? = some y → wr.drew.cell? ⟨gb, ob + i, none⟩ = some (B8 y) := hcs
        have hw1 : W.heap.size < wr.drew.heap.size := hBw
        generalize wr.drew = w1 at *
        have hc12 := (World.cell?_setCell_other w1 ⟨W.heap.size, p16, none⟩ ⟨B1, 0, none⟩ (.int .u32 (y : Int)) (by intro e; injection e; omega)).trans hc11
        have hcs2 : ∀ i z, x[i]? = some z → (w1.setCell ⟨W.heap.size, p16, none⟩ (.int .u32 (y : Int))).cell? ⟨gb, ob + i, none⟩ = some (B8 z) := fun i z h => (World.cell?_setCell_other w1 ⟨W.heap.size, p16, none⟩ ⟨gb, ob + i, none⟩ (.int .u32 (y : Int)) (by intro e; injection e; omega)).trans (hcs1 i z h)
        clear hJk hbx hc1 hcs hBw hn0w hc11 hcs1 S0 S1 f15 f7 f2 e15 e7 e2 k15 k7 k2 hbd hwr c16 c15 c7 c2
        go_wp2_with fail
        obtain ⟨fn, tmps, assign, body, hyy, hR⟩ := hY _ y _ hJ2 ⟨by rw [HL.out]; exact hlt, by rw [HL.out]; exact HW.out⟩
        rw [← HN.out] at hR
        rw [HL.out] at hyy
        have HB2 := Lib.hid hb2
        have HC1 := Lib.hid hc12
        have HCS := Lib.hid hcs2
        clear hJ2 hb2 hc12 hcs2 hY
        gi_wp2
        refine ⟨fun h => (by cases h), hR.mono ?_⟩
        rintro e W3 (⟨rfl, hJ3, hk3⟩ | ⟨rfl, hJx3, hk3⟩)
        · have hb3 := hk3.box (by omega) HB2.out
          have hc13 := hk3.cell (p := ⟨B1, 0, none⟩) h1x HC1.out
          have hcs3 : ∀ i y, x[i]? = some y → W3.cell? ⟨gb, ob + i, none⟩ = some (B8 y) := fun i y h => hk3.cell (p := ⟨gb, ob + i, none⟩) hgx (HCS.out i y h)
          clear hyy hk3
          gi_wp2
          go_roundw
          case rel => exact ⟨k + 1, by omega, by go_num, hJ3, hb3, hc13, hcs3⟩
          case measure => simp [intOf]; omega
        · clear hyy hk3
          gi_wp2
          refine bodyPost_ret (results_none rfl _ _ _) rfl ?_
          exact ⟨⟨_, rfl⟩, .inr ⟨_, trivial, hJx3⟩⟩

set_option maxHeartbeats 400000 in
/-- rounds(block): the block's pointer is boxed; the function value captures the box. -/
theorem rounds_in (n : Nat) (gb ob : Nat) (w : World) :
    CallsIn Fence.wide n Tryz.prog 116 #[.pointer (some ⟨gb, ob, none⟩)] w fun e w' => e = .returned (.func (.func 151) #[] #[.pointer (some ⟨w.heap.size, 0, none⟩)]) ∧ w' = w.alloc (.cells #[.pointer (some ⟨gb, ob, none⟩)] 177) := by
  refine callsIn_of_wp Tryz.func116 rfl trivial ?_ rfl
  simp only [Tryz.ntmps116, List.size_toArray, List.length_cons, List.length_nil, Nat.reduceAdd, Nat.reduceSub, Array.replicate_succ, Array.replicate_zero, List.push_toArray, List.append_toArray, List.nil_append, List.cons_append]
  gi_wp2
  go_ret
  exact ⟨rfl, rfl⟩

theorem rounds_seq (n : Nat) (B1 gb ob Bx : Nat) (x : List UInt8) (hx : x.length = 64) (w : World) (hBx : Bx < w.heap.size) (hB1 : w.cell? ⟨B1, 0, none⟩ = some (.pointer (some ⟨gb, ob, none⟩))) (h1x : B1 ≠ Bx) (hgx : gb ≠ Bx) (hcells : ∀ i y, x[i]? = some y → w.cell? ⟨gb, ob + i, none⟩ = some (B8 y)) :
    SeqSt Fence.wide n Tryz.prog 151 #[.pointer (some ⟨B1, 0, none⟩)] (fun (pre : List Nat) (y : Nat) => #[.int .i64 (pre.length : Int), .int .u32 (y : Int)]) (StX w.heap.size) (KpX Bx) (fun pre y => pre.length < 64 ∧ y = (words x).getD pre.length 0)
      (fun ys _ => ys = words x) (fun _ _ => True) w := fun l J Jx W hW hJs hY h0 =>
  (rounds1_in n l B1 gb ob Bx w.heap.size x hx J Jx hJs hY W hW.size hBx ((hW.cell (p := ⟨B1, 0, none⟩) (World.block_lt_of_cell? _ _ hB1)).trans hB1) h1x hgx (fun i y h => (hW.cell (p := ⟨gb, ob + i, none⟩) (World.block_lt_of_cell? _ _ (hcells i y h))).trans (hcells i y h)) h0).mono
    (fun _ _ h => h)
end Go.Proofs.YtljihmbmjpcfaaaGreat
