/- The program's constants, worked out: workedOut. A region that draws its order, in a round of a range over a function: first operations that change nothing, in any order, then the others in theirs. -/
import Derived.Test.YtljihmbmjpcfaaaGreatHashBox
import Derived.Test.YtljihmbmjpcfaaaGreatRound
import Derived.StillTailTactics
namespace Go.Proofs.YtljihmbmjpcfaaaGreat
open Go.RowKit Go.Shelf Go.Great
set_option maxRecDepth 100000

/-- The constants, as far as they are worked out. -/
def cnUp (k : Nat) : Cn := ⟨begUp k, rndUp k, begUp_length k, rndUp_length k⟩
theorem cn_beg {k : Nat} (hk : k < 8) : (encCn (cnUp k)).set k (.int .u32 ((shaH.getD k 0 : Nat) : Int)) = encCn ⟨begUp (k + 1), rndUp k, begUp_length _, rndUp_length _⟩ := by
  unfold encCn
  rw [List.set_append_left _ _ (by rw [wds_length]; exact Nat.lt_of_lt_of_eq hk (begUp_length k).symm), wds_set]
  show wds ((begUp k).set k _) ++ _ = _
  rw [begUp_set hk]
  rfl
theorem cn_rnd {k : Nat} (hk : k < 64) (j : Nat) : (encCn ⟨begUp j, rndUp k, begUp_length _, rndUp_length _⟩).set (8 + k) (.int .u32 ((shaK.getD k 0 : Nat) : Int)) = encCn ⟨begUp j, rndUp (k + 1), begUp_length _, rndUp_length _⟩ := by
  unfold encCn
  have hl : (wds (begUp j)).length = 8 := by rw [wds_length, begUp_length]
  rw [List.set_append_right _ _ (by rw [hl]; omega), hl, show 8 + k - 8 = k by omega, wds_set, rndUp_set hk]
theorem cn_all : cnUp 64 = ⟨shaH, shaK, rfl, rfl⟩ := by
  simp only [cnUp, begUp_all (show 8 ≤ 64 by omega), rndUp_all]
/-- The constants. -/
def cnAll : Cn := ⟨shaH, shaK, rfl, rfl⟩
theorem begUp_same {k : Nat} (hk : 8 ≤ k) : begUp k = begUp (k + 1) := by rw [begUp_all hk, begUp_all (by omega)]

set_option maxHeartbeats 1000000 in
theorem workedOut_any (w : World) :
    Calls Tryz.prog 57 #[] w fun e W' => e = .returned (eCn.val cnAll) ∧ Below w.heap.size w W' := by
  have y0 := BoxE.new (E := eCn) (t := 117) w zeroCn
  have y1 := BoxE.new (E := eCn) (t := 117) (w.alloc (.cells (eCn.enc zeroCn).toArray 117)) zeroCn
  have y0' := y0.below ((Below.refl _ _).alloc (Nat.le_refl _) (.cells (eCn.enc zeroCn).toArray 117))
  have hB0 : Below w.heap.size w ((w.alloc (.cells (eCn.enc zeroCn).toArray 117)).alloc (.cells (eCn.enc zeroCn).toArray 117)) := ((Below.refl _ w).alloc (Nat.le_refl _) _).alloc (by simp) _
  rw [World.size_alloc] at y1
  go_enter Tryz.func57, Tryz.ntmps57
  go_wp2_with (refine wpList_alloc_e (E := eCn) zeroCn_run rfl rfl ?_)
  generalize ((w.alloc (.cells (eCn.enc zeroCn).toArray 117)).alloc (.cells (eCn.enc zeroCn).toArray 117)) = w0 at y1 y0' hB0
  clear y0
  go_loopw [2, 3] (fun p v wr => ∃ n : Nat, 2 ≤ n ∧ n ≤ 312 ∧ v = .int .u64 (n : Int) ∧ p = .int .i64 (placeOf n : Int) ∧ BoxE eCn 117 wr (w.heap.size + 1) (cnUp (placeOf n)) ∧ BoxE eCn 117 wr w.heap.size zeroCn ∧ Below w.heap.size w wr) (fun _ v _ => 312 - (intOf v).toNat)
  case atStart => exact ⟨2, by omega, by omega, rfl, by rw [place_two]; rfl, by rw [place_two]; exact y1, y0', hB0⟩
  case round =>
    clear y1 y0' hB0
    obtain ⟨n, hn2, hn3, rfl, rfl, hy, hz, hB⟩ := hrel
    have hend := place_end n hn3
    by_cases hlt : n < 312
    case neg =>
      obtain rfl : n = 312 := by omega
      have e64 : placeOf 312 = 64 := by decide +kernel
      rw [e64] at hy ⊢
      rw [cn_all] at hy
      go_wp2_with (first
        | (refine wpList_load_e (E := eCn) Tryz.underlying117 rfl sizeCn rfl (.tmp 1) rfl rfl hy.at ?_)
        | (refine wpList_store_e (E := eCn) sizeCn rfl (.tmp 0) (.tmp 25) rfl rfl hz rfl ?_; intro w3 y3 k3))
      refine bodyPost_ret (results_e1 (E := eCn) Tryz.underlying117 rfl sizeCn rfl _ rfl y3) rfl ?_
      exact ⟨rfl, below_kept_new hB k3⟩
    case pos =>
      have hp63 := hend.2 hlt
      have hnext := place_next n hlt hn2
      have hat := prime_at n hlt hn2
      have HY := Lib.hid hy
      have HZ := Lib.hid hz
      have HN := Lib.hid hnext
      have HA := Lib.hid hat
      have r1 := fun W => isPrime_any W n hn2 (by omega)
      clear hend hy hz hnext hat
      generalize hP : isPr n 20 2 = P at r1 HN HA
      generalize hp : placeOf n = p at HY HN HA hp63 ⊢
      have hpi : (p : Int) ≤ 63 := by omega
      cases P with
      | false =>
        go_wp2_with fail
        refine (r1 _).mono ?_
        rintro e w' ⟨rfl, rfl⟩
        go_simp
        go_wp2_with fail
        have e1 : placeOf (n + 1) = p := by rw [HN.out]; rfl
        exact ⟨⟨n + 1, by omega, by omega, by simp, by rw [e1], by rw [e1]; exact HY.out, HZ.out, hB⟩, by simp only [intOf]; omega⟩
      | true =>
        have e1 : placeOf (n + 1) = p + 1 := by rw [HN.out]; rfl
        have e2 : primesL.getD p 0 = n := of_decide_eq_true HA.out.symm
        have r2 : p < 8 → ∀ W, Calls Tryz.prog 83 #[.int .u64 (n : Int), .int .i64 2] W fun e W' => e = .returned (.int .u32 ((shaH.getD p 0 : Nat) : Int)) ∧ W = W' := fun h8 W => by
          rw [← frac_begins p h8, e2]
          exact fraction_any W n 2 (by omega)
        have r3 : ∀ W, Calls Tryz.prog 83 #[.int .u64 (n : Int), .int .i64 3] W fun e W' => e = .returned (.int .u32 ((shaK.getD p 0 : Nat) : Int)) ∧ W = W' := fun W => by
          rw [← frac_rounds p (by omega), e2]
          exact fraction_any W n 3 (by omega)
        have HE := Lib.hid e1
        clear e1 e2 HN HA
        go_wp2_with fail
        refine (r1 _).mono ?_
        rintro e w' ⟨rfl, rfl⟩
        go_simp
        -- behind the first of both stores
        have rest : ∀ wm, BoxE eCn 117 wm (w.heap.size + 1) ⟨begUp (p + 1), rndUp p, begUp_length _, rndUp_length _⟩ → BoxE eCn 117 wm w.heap.size zeroCn → Below w.heap.size w wm →
            wm.frozen? ⟨w.heap.size + 1, 8 + p, none⟩ = false ∧ wm.cell? ⟨w.heap.size + 1, 8 + p, none⟩ = some (.int .u32 (((rndUp p).getD p 0 : Nat) : Int)) ∧
            BoxE eCn 117 (wm.setCell ⟨w.heap.size + 1, 8 + p, none⟩ (.int .u32 ((shaK.getD p 0 : Nat) : Int))) (w.heap.size + 1) (cnUp (p + 1)) ∧ BoxE eCn 117 (wm.setCell ⟨w.heap.size + 1, 8 + p, none⟩ (.int .u32 ((shaK.getD p 0 : Nat) : Int))) w.heap.size zeroCn ∧ Below w.heap.size w (wm.setCell ⟨w.heap.size + 1, 8 + p, none⟩ (.int .u32 ((shaK.getD p 0 : Nat) : Int))) := fun wm h1 h2 h3 => by
          refine ⟨h1.frozen _, ?_, h1.put _ (cn_rnd (by omega) (p + 1)), h2.kept ((Kept.refl (· = w.heap.size + 1) wm).setCell (fun _ => rfl) _) (by omega), h3.setCell (by simp) _⟩
          have := CnAt.rounds h1.at (i := p) (y := (rndUp p).getD p 0) (by rw [List.getD_eq_getElem?_getD, List.getElem?_eq_getElem (by rw [rndUp_length]; omega)]; rfl)
          rwa [Nat.zero_add] at this
        by_cases hp8 : p < 8
        case pos =>
          have hpi8 : (p : Int) < 8 := by omega
          have r2' := r2 hp8
          have hb := HY.out
          have hfr := hb.frozen p
          have hc := ChAt.at (CnAt.beg hb.at) (i := p) (y := (begUp p).getD p 0) (by show (begUp p)[p]? = _; rw [List.getD_eq_getElem?_getD, List.getElem?_eq_getElem (by rw [begUp_length]; omega)]; rfl)
          rw [Nat.zero_add] at hc
          have hb2 := hb.put _ (cn_beg hp8)
          have hz2 := HZ.out.kept ((Kept.refl (· = w.heap.size + 1) wr).setCell (p := ⟨w.heap.size + 1, p, none⟩) (fun _ => rfl) (.int .u32 ((shaH.getD p 0 : Nat) : Int))) (by omega)
          have hB2 := hB.setCell (p := ⟨w.heap.size + 1, p, none⟩) (by simp) (.int .u32 ((shaH.getD p 0 : Nat) : Int))
          have HR := Lib.hid (rest _ hb2 hz2 hB2)
          clear hb hb2 hz2 hB2 rest r2
          generalize shaH.getD p 0 = x at r2' HR
          generalize shaK.getD p 0 = y at r3 HR
          generalize (begUp p).getD p 0 = z at hc
          generalize (rndUp p).getD p 0 = u at HR
          go_wp2_with fail
          refine (r2' _).mono ?_
          rintro e w' ⟨rfl, rfl⟩
          go_simp
          go_wp2_with fail
          generalize wr.setCell ⟨w.heap.size + 1, p, none⟩ (.int .u32 (x : Int)) = wm at HR ⊢
          obtain ⟨f1, c1, b1, z1, B1⟩ := HR.out
          have HB1 := Lib.hid b1
          have HZ1 := Lib.hid z1
          have HX1 := Lib.hid B1
          clear b1 z1 B1 HR
          refine (r3 _).mono ?_
          rintro e w' ⟨rfl, rfl⟩
          go_simp
          go_wp2_with fail
          exact ⟨⟨n + 1, by omega, by omega, by simp, by rw [HE.out]; simp, by rw [HE.out]; exact HB1.out, HZ1.out, HX1.out⟩, by simp only [intOf]; omega⟩
        case neg =>
          have hpi8 : ¬ (p : Int) < 8 := by omega
          have hbox : BoxE eCn 117 wr (w.heap.size + 1) ⟨begUp (p + 1), rndUp p, begUp_length _, rndUp_length _⟩ := by
            have := HY.out
            unfold cnUp at this
            unfold BoxE at this ⊢
            rw [this]
            show some (Obj.cells (wds (begUp p) ++ wds (rndUp p)).toArray 117 (0, 0)) = some (Obj.cells (wds (begUp (p + 1)) ++ wds (rndUp p)).toArray 117 (0, 0))
            rw [begUp_same (by omega)]
          have HR := Lib.hid (rest _ hbox HZ.out hB)
          clear hbox rest r2
          generalize shaK.getD p 0 = y at r3 HR
          generalize (rndUp p).getD p 0 = u at HR
          obtain ⟨f1, c1, b1, z1, B1⟩ := HR.out
          have HB1 := Lib.hid b1
          have HZ1 := Lib.hid z1
          have HX1 := Lib.hid B1
          clear b1 z1 B1 HR
          go_wp2_with fail
          refine (r3 _).mono ?_
          rintro e w' ⟨rfl, rfl⟩
          go_simp
          go_wp2_with fail
          exact ⟨⟨n + 1, by omega, by omega, by simp, by rw [HE.out]; simp, by rw [HE.out]; exact HB1.out, HZ1.out, HX1.out⟩, by simp only [intOf]; omega⟩
end Go.Proofs.YtljihmbmjpcfaaaGreat
namespace Go.Proofs.YtljihmbmjpcfaaaGreat
open Go
variable {P : Program} {Q : Exit → Act → World → Prop}

theorem wpIn_round_still {id lp k : Nat} {a : Act} {w : World} {l : List Oper} (n : Nat) (hm : P.follows .mixedOrders = true) (hB : Region.lexTailB .any l.toArray n = true) (hd : noDefer l.toArray = true)
    (h : wpStill P l.toArray w.drew (fun a' => wpList P l.toArray (only (Q .normal)) (l.drop n) a' w.drew) (l.take n) a) : (Code.region id l.toArray true).wpIn (Fence.wide.inRound lp) k P Q a w := by
  have hB' := hB
  simp only [Region.lexTailB, Bool.and_eq_true, decide_eq_true_eq] at hB'
  obtain ⟨⟨⟨⟨h1, h2⟩, h3⟩, h4⟩, h5⟩ := hB'
  have hlt : n < l.length := by simpa using h2
  have lt : (l.take n).length = n := by rw [List.length_take]; omega
  have ld : (l.drop n).length = l.toArray.size - n := by rw [List.length_drop]; rfl
  have h0 : HeadInv .any l.toArray n (Array.replicate l.toArray.size false) := by
    refine ⟨by simp, ?_, fun t _ ht => getD_in (by simpa using ht) (getD_replicate_false _ _)⟩
    intro j oj _ hl
    rw [getD_replicate_false] at hl
    cases hl
  have hL := wpAnyL_lex (md := .any) (g := l.toArray.size - n) h1 h3 h4 h2 (l.take n) 0 _ a (fun j hj => by
    rw [lt] at hj
    simp [hj]) (by rw [Nat.zero_add]; exact lt) h0 (by rw [lt]; exact h5) h
  have hA := wpAny_of_head (Q' := only (Q .normal)) (g := l.toArray.size - n) (fun listed a' hp => by
    have hq := wpAny_of_seq (md := .any) (Q' := only (Q .normal)) (l.drop n) n listed a' w.drew (fun j => by simp [List.getElem?_drop]) (by rw [ld]; exact hp.1) hp.2
    rw [ld] at hq
    exact hq) _ _ _ hL
  rw [lt, show n + (l.toArray.size - n) = l.toArray.size by omega] at hA
  exact wpIn_only (wpIn_region_any hm (wpAnyIn_of_wpAny (only_not _) hd _ _ _ _ hA))

theorem wpStill_value {ops : Array Oper} {R : Act → Prop} {o : Oper} {rest : List Oper} {a : Act} {w : World} (hg : o.guard = none) (v : Value) (hrun : (execOp a.eval o).run P w = .ok (.value v) w) (h : wpStill P ops w R rest (a.put o.dst v)) : wpStill P ops w R (o :: rest) a := by
  refine wpStill_step (fun K hK => ?_)
  rw [if_pos (by simp [Region.wanted, hg])]
  unfold Oper.still
  rw [hrun]
  exact ⟨rfl, hK _ h⟩
end Go.Proofs.YtljihmbmjpcfaaaGreat
