/- Chains, constants, hashes that go on: as values, in variables. The program's constants, worked out: workedOut. The chain behind a round: the program's turned. A word in four bytes: the program's wordAt, putWord. -/
import Derived.Test.YtljihmbmjpcfaaaGreatOneE
import Derived.Test.YtljihmbmjpcfaaaGreatHashFrac
import Derived.Test.YtljihmbmjpcfaaaGreatHashOrs
namespace Go.Proofs.YtljihmbmjpcfaaaGreat
open Go.RowKit Go.Shelf Go.Great
set_option maxRecDepth 100000

def wds (l : List Nat) : List Value := l.map Wd
theorem wds_length (l : List Nat) : (wds l).length = l.length := by simp [wds]
theorem wds_one (l : List Nat) : ∀ u ∈ wds l, u.oneCell' = true := by
  intro u hu
  obtain ⟨i, _, rfl⟩ := List.mem_map.1 hu
  rfl
theorem wds_get {l : List Nat} {i x : Nat} (h : l[i]? = some x) : (wds l)[i]? = some (.int .u32 (x : Int)) := by
  rw [wds, List.getElem?_map, h]
  rfl
theorem wds_set (l : List Nat) (i x : Nat) : (wds l).set i (.int .u32 (x : Int)) = wds (l.set i x) := by
  rw [wds, wds, List.map_set]
/-- A chain. -/
structure Ch where
  l : List Nat
  h : l.length = 8
def eCh : Elt Ch := ⟨fun c => wds c.l, 8, by omega, fun c => by rw [wds_length, c.h], fun c => wds_one c.l⟩
/-- Sixteen words. -/
structure W16 where
  l : List Nat
  h : l.length = 16
def eW16 : Elt W16 := ⟨fun c => wds c.l, 16, by omega, fun c => by rw [wds_length, c.h], fun c => wds_one c.l⟩
/-- Constants. -/
structure Cn where
  b : List Nat
  r : List Nat
  hb : b.length = 8
  hr : r.length = 64
def encCn (c : Cn) : List Value := wds c.b ++ wds c.r
def eCn : Elt Cn := ⟨encCn, 72, by omega, fun c => by rw [encCn, List.length_append, wds_length, wds_length, c.hb, c.hr], fun c u hu => by
  rcases List.mem_append.1 hu with h | h
  · exact wds_one _ u h
  · exact wds_one _ u h⟩
/-- A hash that goes on. -/
structure Rn where
  c : List Nat
  b : List UInt8
  n : Nat
  hc : c.length = 8
  hb : b.length = 64
def encRn (r : Rn) : List Value := wds r.c ++ (r.b.map B8 ++ [.int .i64 (r.n : Int)])
def eRn : Elt Rn := ⟨encRn, 73, by omega, fun r => by simp [encRn, wds_length, r.hc, r.hb], fun r u hu => by
  rcases List.mem_append.1 hu with h | h
  · exact wds_one _ u h
  · rcases List.mem_append.1 h with h | h
    · obtain ⟨i, _, rfl⟩ := List.mem_map.1 h
      rfl
    · simp at h
      subst h
      rfl⟩
def zeroCh : Ch := ⟨List.replicate 8 0, rfl⟩
def zeroCn : Cn := ⟨List.replicate 8 0, List.replicate 64 0, rfl, rfl⟩
def zeroRn : Rn := ⟨List.replicate 8 0, List.replicate 64 0, 0, rfl, rfl⟩
def zero16 : W16 := ⟨List.replicate 16 0, rfl⟩
theorem zeroCh_run (w : World) : (zeroValue 114).run Tryz.prog w = .ok (eCh.val zeroCh) w := by
  have h : (Tryz.prog.info? 114).map (·.zero) = some (some (eCh.val zeroCh)) := by kernel_rfl
  obtain ⟨i, hi, hz⟩ := Option.map_eq_some_iff.1 h
  simp [zeroValue, typeInfo, hi, hz]
theorem zeroCn_run (w : World) : (zeroValue 117).run Tryz.prog w = .ok (eCn.val zeroCn) w := by
  have h : (Tryz.prog.info? 117).map (·.zero) = some (some (eCn.val zeroCn)) := by kernel_rfl
  obtain ⟨i, hi, hz⟩ := Option.map_eq_some_iff.1 h
  simp [zeroValue, typeInfo, hi, hz]
theorem zeroRn_run (w : World) : (zeroValue 121).run Tryz.prog w = .ok (eRn.val zeroRn) w := by
  have h : (Tryz.prog.info? 121).map (·.zero) = some (some (eRn.val zeroRn)) := by kernel_rfl
  obtain ⟨i, hi, hz⟩ := Option.map_eq_some_iff.1 h
  simp [zeroValue, typeInfo, hi, hz]
theorem zero16_run (w : World) : (zeroValue 247).run Tryz.prog w = .ok (eW16.val zero16) w := by
  have h : (Tryz.prog.info? 247).map (·.zero) = some (some (eW16.val zero16)) := by kernel_rfl
  obtain ⟨i, hi, hz⟩ := Option.map_eq_some_iff.1 h
  simp [zeroValue, typeInfo, hi, hz]
theorem sizeCh : (Tryz.prog.info? 114).map (·.size) = some eCh.k := by kernel_rfl
theorem sizeCn : (Tryz.prog.info? 117).map (·.size) = some eCn.k := by kernel_rfl
theorem sizeRn : (Tryz.prog.info? 121).map (·.size) = some eRn.k := by kernel_rfl
theorem size16 : (Tryz.prog.info? 247).map (·.size) = some eW16.k := by kernel_rfl
section
variable {W : World} {b o : Nat}
theorem ChAt.at {x : Ch} (h : ElAt eCh W b o x) {i y : Nat} (hy : x.l[i]? = some y) : W.cell? ⟨b, o + i, none⟩ = some (.int .u32 (y : Int)) := h i _ (wds_get hy)
theorem CnAt.beg {x : Cn} (h : ElAt eCn W b o x) : ElAt eCh W b o ⟨x.b, x.hb⟩ := rangeAt_left h
theorem CnAt.rounds {x : Cn} (h : ElAt eCn W b o x) {i y : Nat} (hy : x.r[i]? = some y) : W.cell? ⟨b, o + 8 + i, none⟩ = some (.int .u32 (y : Int)) := by
  have := rangeAt_right h
  rw [wds_length, x.hb] at this
  exact this i _ (wds_get hy)
theorem RnAt.chain {x : Rn} (h : ElAt eRn W b o x) : ElAt eCh W b o ⟨x.c, x.hc⟩ := rangeAt_left h
theorem RnAt.block {x : Rn} (h : ElAt eRn W b o x) : W.rangeAt b (o + 8) (x.b.map B8) := by
  have := rangeAt_right h
  rw [wds_length, x.hc] at this
  exact rangeAt_left this
theorem RnAt.len {x : Rn} (h : ElAt eRn W b o x) : W.cell? ⟨b, o + 72, none⟩ = some (.int .i64 (x.n : Int)) := by
  have := rangeAt_right (rangeAt_right h)
  rw [wds_length, x.hc, List.length_map, x.hb, Nat.add_assoc] at this
  exact rangeAt_head this
end
end Go.Proofs.YtljihmbmjpcfaaaGreat
namespace Go.Proofs.YtljihmbmjpcfaaaGreat
open Go.RowKit Go.Shelf Go.Great
set_option maxRecDepth 100000

/-- The constants, as far as they are worked out. -/
def cnUp (k : Nat) : Cn := ⟨begUp k, rndUp k, begUp_length k, rndUp_length k⟩
theorem cn_beg {k : Nat} (hk : k < 8) : (encCn (cnUp k)).set k (.int .u32 ((shaH.getD k 0 : Nat) : Int)) = encCn ⟨begUp (k + 1), rndUp k, begUp_length _, rndUp_length _⟩ := by
  unfold encCn
  rw [List.set_append_left _ _ (by rw [wds_length]; exact Nat.lt_of_lt_of_eq hk (begUp_length k).symm), wds_set]
  show wds ((begUp k).set k _) ++ _ = _
  rw [begUp_set hk]
  rfl
theorem cn_rnd {k : Nat} (hk : k < 64) (j : Nat) : (encCn ⟨begUp j, rndUp k, begUp_length _, rndUp_length _⟩).set (8 + k) (.int .u32 ((shaK.getD k 0 : Nat) : Int)) = encCn ⟨begUp j, rndUp (k + 1), begUp_length _, rndUp_length _⟩ := by
  unfold encCn
  have hl : (wds (begUp j)).length = 8 := by rw [wds_length, begUp_length]
  rw [List.set_append_right _ _ (by rw [hl]; omega), hl, show 8 + k - 8 = k by omega, wds_set, rndUp_set hk]
theorem cn_all : cnUp 64 = ⟨shaH, shaK, rfl, rfl⟩ := by
  simp only [cnUp, begUp_all (show 8 ≤ 64 by omega), rndUp_all]
/-- The constants. -/
def cnAll : Cn := ⟨shaH, shaK, rfl, rfl⟩
theorem begUp_same {k : Nat} (hk : 8 ≤ k) : begUp k = begUp (k + 1) := by rw [begUp_all hk, begUp_all (by omega)]

set_option maxHeartbeats 1000000 in
theorem workedOut_any (w : World) :
    Calls Tryz.prog 57 #[] w fun e W' => e = .returned (eCn.val cnAll) ∧ Below w.heap.size w W' := by
  have y0 := BoxE.new (E := eCn) (t := 117) w zeroCn
  have y1 := BoxE.new (E := eCn) (t := 117) (w.alloc (.cells (eCn.enc zeroCn).toArray 117)) zeroCn
  have y0' := y0.below ((Below.refl _ _).alloc (Nat.le_refl _) (.cells (eCn.enc zeroCn).toArray 117))
  have hB0 : Below w.heap.size w ((w.alloc (.cells (eCn.enc zeroCn).toArray 117)).alloc (.cells (eCn.enc zeroCn).toArray 117)) := ((Below.refl _ w).alloc (Nat.le_refl _) _).alloc (by simp) _
  rw [World.size_alloc] at y1
  go_enter Tryz.func57, Tryz.ntmps57
  go_wp2_with (refine wpList_alloc_e (E := eCn) zeroCn_run rfl rfl ?_)
  generalize ((w.alloc (.cells (eCn.enc zeroCn).toArray 117)).alloc (.cells (eCn.enc zeroCn).toArray 117)) = w0 at y1 y0' hB0
  clear y0
  go_loopw [2, 3] (fun p v wr => ∃ n : Nat, 2 ≤ n ∧ n ≤ 312 ∧ v = .int .u64 (n : Int) ∧ p = .int .i64 (placeOf n : Int) ∧ BoxE eCn 117 wr (w.heap.size + 1) (cnUp (placeOf n)) ∧ BoxE eCn 117 wr w.heap.size zeroCn ∧ Below w.heap.size w wr) (fun _ v _ => 312 - (intOf v).toNat)
  case atStart => exact ⟨2, by omega, by omega, rfl, by rw [place_two]; rfl, by rw [place_two]; exact y1, y0', hB0⟩
  case round =>
    clear y1 y0' hB0
    obtain ⟨n, hn2, hn3, rfl, rfl, hy, hz, hB⟩ := hrel
    have hend := place_end n hn3
    by_cases hlt : n < 312
    case neg =>
      obtain rfl : n = 312 := by omega
      have e64 : placeOf 312 = 64 := by decide +kernel
      rw [e64] at hy ⊢
      rw [cn_all] at hy
      go_wp2_with (first
        | (refine wpList_load_e (E := eCn) Tryz.underlying117 rfl sizeCn rfl (.tmp 1) rfl rfl hy.at ?_)
        | (refine wpList_store_e (E := eCn) sizeCn rfl (.tmp 0) (.tmp 25) rfl rfl hz rfl ?_; intro w3 y3 k3))
      refine bodyPost_ret (results_e1 (E := eCn) Tryz.underlying117 rfl sizeCn rfl _ rfl y3) rfl ?_
      exact ⟨rfl, below_kept_new hB k3⟩
    case pos =>
      have hp63 := hend.2 hlt
      have hnext := place_next n hlt hn2
      have hat := prime_at n hlt hn2
      have HY := Lib.hid hy
      have HZ := Lib.hid hz
      have HN := Lib.hid hnext
      have HA := Lib.hid hat
      have r1 := fun W => isPrime_any W n hn2 (by omega)
      clear hend hy hz hnext hat
      generalize hP : isPr n 20 2 = P at r1 HN HA
      generalize hp : placeOf n = p at HY HN HA hp63 ⊢
      have hpi : (p : Int) ≤ 63 := by omega
      cases P with
      | false =>
        go_wp2_with fail
        refine (r1 _).mono ?_
        rintro e w' ⟨rfl, rfl⟩
        go_simp
        go_wp2_with fail
        have e1 : placeOf (n + 1) = p := by rw [HN.out]; rfl
        exact ⟨⟨n + 1, by omega, by omega, by simp, by rw [e1], by rw [e1]; exact HY.out, HZ.out, hB⟩, by simp only [intOf]; omega⟩
      | true =>
        have e1 : placeOf (n + 1) = p + 1 := by rw [HN.out]; rfl
        have e2 : primesL.getD p 0 = n := of_decide_eq_true HA.out.symm
        have r2 : p < 8 → ∀ W, Calls Tryz.prog 83 #[.int .u64 (n : Int), .int .i64 2] W fun e W' => e = .returned (.int .u32 ((shaH.getD p 0 : Nat) : Int)) ∧ W = W' := fun h8 W => by
          rw [← frac_begins p h8, e2]
          exact fraction_any W n 2 (by omega)
        have r3 : ∀ W, Calls Tryz.prog 83 #[.int .u64 (n : Int), .int .i64 3] W fun e W' => e = .returned (.int .u32 ((shaK.getD p 0 : Nat) : Int)) ∧ W = W' := fun W => by
          rw [← frac_rounds p (by omega), e2]
          exact fraction_any W n 3 (by omega)
        have HE := Lib.hid e1
        clear e1 e2 HN HA
        go_wp2_with fail
        refine (r1 _).mono ?_
        rintro e w' ⟨rfl, rfl⟩
        go_simp
        -- behind the first of both stores
        have rest : ∀ wm, BoxE eCn 117 wm (w.heap.size + 1) ⟨begUp (p + 1), rndUp p, begUp_length _, rndUp_length _⟩ → BoxE eCn 117 wm w.heap.size zeroCn → Below w.heap.size w wm →
            wm.frozen? ⟨w.heap.size + 1, 8 + p, none⟩ = false ∧ wm.cell? ⟨w.heap.size + 1, 8 + p, none⟩ = some (.int .u32 (((rndUp p).getD p 0 : Nat) : Int)) ∧
            BoxE eCn 117 (wm.setCell ⟨w.heap.size + 1, 8 + p, none⟩ (.int .u32 ((shaK.getD p 0 : Nat) : Int))) (w.heap.size + 1) (cnUp (p + 1)) ∧ BoxE eCn 117 (wm.setCell ⟨w.heap.size + 1, 8 + p, none⟩ (.int .u32 ((shaK.getD p 0 : Nat) : Int))) w.heap.size zeroCn ∧ Below w.heap.size w (wm.setCell ⟨w.heap.size + 1, 8 + p, none⟩ (.int .u32 ((shaK.getD p 0 : Nat) : Int))) := fun wm h1 h2 h3 => by
          refine ⟨h1.frozen _, ?_, h1.put _ (cn_rnd (by omega) (p + 1)), h2.kept ((Kept.refl (· = w.heap.size + 1) wm).setCell (fun _ => rfl) _) (by omega), h3.setCell (by simp) _⟩
          have := CnAt.rounds h1.at (i := p) (y := (rndUp p).getD p 0) (by rw [List.getD_eq_getElem?_getD, List.getElem?_eq_getElem (by rw [rndUp_length]; omega)]; rfl)
          rwa [Nat.zero_add] at this
        by_cases hp8 : p < 8
        case pos =>
          have hpi8 : (p : Int) < 8 := by omega
          have r2' := r2 hp8
          have hb := HY.out
          have hfr := hb.frozen p
          have hc := ChAt.at (CnAt.beg hb.at) (i := p) (y := (begUp p).getD p 0) (by show (begUp p)[p]? = _; rw [List.getD_eq_getElem?_getD, List.getElem?_eq_getElem (by rw [begUp_length]; omega)]; rfl)
          rw [Nat.zero_add] at hc
          have hb2 := hb.put _ (cn_beg hp8)
          have hz2 := HZ.out.kept ((Kept.refl (· = w.heap.size + 1) wr).setCell (p := ⟨w.heap.size + 1, p, none⟩) (fun _ => rfl) (.int .u32 ((shaH.getD p 0 : Nat) : Int))) (by omega)
          have hB2 := hB.setCell (p := ⟨w.heap.size + 1, p, none⟩) (by simp) (.int .u32 ((shaH.getD p 0 : Nat) : Int))
          have HR := Lib.hid (rest _ hb2 hz2 hB2)
          clear hb hb2 hz2 hB2 rest r2
          generalize shaH.getD p 0 = x at r2' HR
          generalize shaK.getD p 0 = y at r3 HR
          generalize (begUp p).getD p 0 = z at hc
          generalize (rndUp p).getD p 0 = u at HR
          go_wp2_with fail
          refine (r2' _).mono ?_
          rintro e w' ⟨rfl, rfl⟩
          go_simp
          go_wp2_with fail
          generalize wr.setCell ⟨w.heap.size + 1, p, none⟩ (.int .u32 (x : Int)) = wm at HR ⊢
          obtain ⟨f1, c1, b1, z1, B1⟩ := HR.out
          have HB1 := Lib.hid b1
          have HZ1 := Lib.hid z1
          have HX1 := Lib.hid B1
          clear b1 z1 B1 HR
          refine (r3 _).mono ?_
          rintro e w' ⟨rfl, rfl⟩
          go_simp
          go_wp2_with fail
          exact ⟨⟨n + 1, by omega, by omega, by simp, by rw [HE.out]; simp, by rw [HE.out]; exact HB1.out, HZ1.out, HX1.out⟩, by simp only [intOf]; omega⟩
        case neg =>
          have hpi8 : ¬ (p : Int) < 8 := by omega
          have hbox : BoxE eCn 117 wr (w.heap.size + 1) ⟨begUp (p + 1), rndUp p, begUp_length _, rndUp_length _⟩ := by
            have := HY.out
            unfold cnUp at this
            unfold BoxE at this ⊢
            rw [this]
            show some (Obj.cells (wds (begUp p) ++ wds (rndUp p)).toArray 117 (0, 0)) = some (Obj.cells (wds (begUp (p + 1)) ++ wds (rndUp p)).toArray 117 (0, 0))
            rw [begUp_same (by omega)]
          have HR := Lib.hid (rest _ hbox HZ.out hB)
          clear hbox rest r2
          generalize shaK.getD p 0 = y at r3 HR
          generalize (rndUp p).getD p 0 = u at HR
          obtain ⟨f1, c1, b1, z1, B1⟩ := HR.out
          have HB1 := Lib.hid b1
          have HZ1 := Lib.hid z1
          have HX1 := Lib.hid B1
          clear b1 z1 B1 HR
          go_wp2_with fail
          refine (r3 _).mono ?_
          rintro e w' ⟨rfl, rfl⟩
          go_simp
          go_wp2_with fail
          exact ⟨⟨n + 1, by omega, by omega, by simp, by rw [HE.out]; simp, by rw [HE.out]; exact HB1.out, HZ1.out, HX1.out⟩, by simp only [intOf]; omega⟩
end Go.Proofs.YtljihmbmjpcfaaaGreat
namespace Go.Proofs.YtljihmbmjpcfaaaGreat
open Go.RowKit Go.Shelf Go.Great
set_option maxRecDepth 100000

/-- Words of 32 bits. -/
structure Eight.Ok (s : Eight) : Prop where
  a : s.a < 4294967296
  b : s.b < 4294967296
  c : s.c < 4294967296
  d : s.d < 4294967296
  e : s.e < 4294967296
  f : s.f < 4294967296
  g : s.g < 4294967296
  h : s.h < 4294967296
theorem roundN_ok {s : Eight} (h : s.Ok) (n : Nat) : (roundN s n).Ok :=
  ⟨Nat.mod_lt _ (by decide), h.a, h.b, h.c, Nat.mod_lt _ (by decide), h.e, h.f, h.g⟩
theorem built8 (a b c d e f g h : Int) : Tryz.prog.built 114 [(0, .int .u32 a), (1, .int .u32 b), (2, .int .u32 c), (3, .int .u32 d), (4, .int .u32 e), (5, .int .u32 f), (6, .int .u32 g), (7, .int .u32 h)] = some #[.int .u32 a, .int .u32 b, .int .u32 c, .int .u32 d, .int .u32 e, .int .u32 f, .int .u32 g, .int .u32 h] := by kernel_rfl
theorem xor_lt32 {a b : Nat} (ha : a < 4294967296) (hb : b < 4294967296) : a ^^^ b < 4294967296 := Nat.xor_lt_two_pow (n := 32) ha hb
theorem and_lt32 {a : Nat} (b : Nat) (ha : a < 4294967296) : a &&& b < 4294967296 := Nat.lt_of_le_of_lt Nat.and_le_left ha
theorem xor_ones {e : Nat} (he : e < 4294967296) : 4294967295 ^^^ e = 4294967295 - e := by
  apply Nat.eq_of_testBit_eq
  intro i
  rw [show 4294967295 - e = 2 ^ 32 - (e + 1) by omega, Nat.testBit_two_pow_sub_succ he, Nat.testBit_xor, show (4294967295 : Nat) = 2 ^ 32 - 1 from rfl, Nat.testBit_two_pow_sub_one]
  by_cases hi : i < 32
  · simp [hi]
  · rw [Nat.testBit_lt_two_pow (x := e) (Nat.lt_of_lt_of_le he (Nat.pow_le_pow_right (n := 2) (by omega) (by omega : 32 ≤ i)))]
    simp [hi]
abbrev ch8 (s : Eight) : Ch := ⟨s.list, rfl⟩

set_option maxHeartbeats 1000000 in
theorem turned_any (w : World) (s : Eight) (hs : s.Ok) (n : Nat) :
    Calls Tryz.prog 117 #[eCh.val (ch8 s), .int .u32 (n : Int)] w fun e W' => e = .returned (eCh.val (ch8 (roundN s n))) ∧ Below w.heap.size w W' := by
  obtain ⟨a, b, c, d, e, f, g, v⟩ := s
  obtain ⟨ha, hb, hc, hd, he, hf, hg, hh⟩ := hs
  simp only at ha hb hc hd he hf hg hh
  -- choice
  obtain ⟨p1, hp1⟩ : ∃ p, p = e &&& f := ⟨_, rfl⟩
  obtain ⟨p2, hp2⟩ : ∃ p, p = 4294967295 - e := ⟨_, rfl⟩
  obtain ⟨p3, hp3⟩ : ∃ p, p = p2 &&& g := ⟨_, rfl⟩
  obtain ⟨p4, hp4⟩ : ∃ p, p = p1 ^^^ p3 := ⟨_, rfl⟩
  have b1 : p1 < 4294967296 := by rw [hp1]; exact and_lt32 _ he
  have b2 : p2 < 4294967296 := by omega
  have b3 : p3 < 4294967296 := by rw [hp3]; exact and_lt32 _ b2
  have b4 : p4 < 4294967296 := by rw [hp4]; exact xor_lt32 b1 b3
  have x1 := u32_and_nat e f he hf
  have x3 := u32_and_nat p2 g b2 hg
  have x4 := u32_xor_nat p1 p3 b1 b3
  rw [← hp1] at x1
  rw [← hp3] at x3
  rw [← hp4] at x4
  -- most
  obtain ⟨q1, hq1⟩ : ∃ p, p = a &&& b := ⟨_, rfl⟩
  obtain ⟨q2, hq2⟩ : ∃ p, p = a &&& c := ⟨_, rfl⟩
  obtain ⟨q3, hq3⟩ : ∃ p, p = b &&& c := ⟨_, rfl⟩
  obtain ⟨q4, hq4⟩ : ∃ p, p = q1 ^^^ q2 := ⟨_, rfl⟩
  obtain ⟨q5, hq5⟩ : ∃ p, p = q4 ^^^ q3 := ⟨_, rfl⟩
  have d1 : q1 < 4294967296 := by rw [hq1]; exact and_lt32 _ ha
  have d2 : q2 < 4294967296 := by rw [hq2]; exact and_lt32 _ ha
  have d3 : q3 < 4294967296 := by rw [hq3]; exact and_lt32 _ hb
  have d4 : q4 < 4294967296 := by rw [hq4]; exact xor_lt32 d1 d2
  have d5 : q5 < 4294967296 := by rw [hq5]; exact xor_lt32 d4 d3
  have y1 := u32_and_nat a b ha hb
  have y2 := u32_and_nat a c ha hc
  have y3 := u32_and_nat b c hb hc
  have y4 := u32_xor_nat q1 q2 d1 d2
  have y5 := u32_xor_nat q4 q3 d4 d3
  rw [← hq1] at y1
  rw [← hq2] at y2
  rw [← hq3] at y3
  rw [← hq4] at y4
  rw [← hq5] at y5
  -- turns
  obtain ⟨t1, ht1⟩ : ∃ p, p = rotr e 6 ^^^ rotr e 11 ^^^ rotr e 25 := ⟨_, rfl⟩
  obtain ⟨t2, ht2⟩ : ∃ p, p = rotr a 2 ^^^ rotr a 13 ^^^ rotr a 22 := ⟨_, rfl⟩
  have r1 : ∀ W, Calls Tryz.prog 155 #[.int .u32 (e : Int), .int .i64 6, .int .i64 11, .int .i64 25] W fun r w' => r = .returned (.int .u32 (t1 : Int)) ∧ W = w' := fun W => by
    rw [ht1]
    exact turns_any W e 6 11 25 he (by omega) (by omega) (by omega) (by omega) (by omega) (by omega)
  have r2 : ∀ W, Calls Tryz.prog 155 #[.int .u32 (a : Int), .int .i64 2, .int .i64 13, .int .i64 22] W fun r w' => r = .returned (.int .u32 (t2 : Int)) ∧ W = w' := fun W => by
    rw [ht2]
    exact turns_any W a 2 13 22 ha (by omega) (by omega) (by omega) (by omega) (by omega) (by omega)
  have hN : roundN ⟨a, b, c, d, e, f, g, v⟩ n = ⟨((n + v + t1 + p4) % 4294967296 + (t2 + q5) % 4294967296) % 4294967296, a, b, c, (d + (n + v + t1 + p4) % 4294967296) % 4294967296, e, f, g⟩ := by
    simp only [roundN, ht1, ht2, hp4, hp3, hp2, hp1, hq5, hq4, hq3, hq2, hq1]
  have HN := Lib.hid hN
  have n2 : bits .xor .u32 IntKind.u32.max (e : Int) = (p2 : Int) := by
    rw [show IntKind.u32.max = ((4294967295 : Nat) : Int) from rfl, u32_xor_nat 4294967295 e (by omega) he, xor_ones he, hp2]
  clear hN hp1 hp2 hp3 hp4 hq1 hq2 hq3 hq4 hq5 ht1 ht2
  go_enter Tryz.func117, Tryz.ntmps117
  go_wp2_with (first
    | (refine wpList_box_e (E := eCh) rfl (.tmp 0) rfl rfl ?_; intro w1 z1 hB1)
    | (refine wpList_alloc_e (E := eCh) zeroCh_run rfl rfl ?_
       obtain ⟨w2, hw2⟩ : ∃ w2, w2 = w1.alloc (.cells (eCh.enc zeroCh).toArray 114) := ⟨_, rfl⟩
       have hB2 : Below w.heap.size w w2 := by rw [hw2]; exact hB1.alloc hB1.size _
       have z2 : BoxE eCh 114 w2 w1.heap.size zeroCh := by rw [hw2]; exact BoxE.new w1 zeroCh
       have zc := z1.below ((Below.refl w1.heap.size w1).alloc (Nat.le_refl _) (.cells (eCh.enc zeroCh).toArray 114))
       rw [← hw2] at zc ⊢
       have c0 : w2.cell? ⟨w.heap.size, 0, none⟩ = some (.int .u32 (a : Int)) := ChAt.at zc.at (i := 0) rfl
       have c1 : w2.cell? ⟨w.heap.size, 1, none⟩ = some (.int .u32 (b : Int)) := ChAt.at zc.at (i := 1) rfl
       have c2 : w2.cell? ⟨w.heap.size, 2, none⟩ = some (.int .u32 (c : Int)) := ChAt.at zc.at (i := 2) rfl
       have c3 : w2.cell? ⟨w.heap.size, 3, none⟩ = some (.int .u32 (d : Int)) := ChAt.at zc.at (i := 3) rfl
       have c4 : w2.cell? ⟨w.heap.size, 4, none⟩ = some (.int .u32 (e : Int)) := ChAt.at zc.at (i := 4) rfl
       have c5 : w2.cell? ⟨w.heap.size, 5, none⟩ = some (.int .u32 (f : Int)) := ChAt.at zc.at (i := 5) rfl
       have c6 : w2.cell? ⟨w.heap.size, 6, none⟩ = some (.int .u32 (g : Int)) := ChAt.at zc.at (i := 6) rfl
       have c7 : w2.cell? ⟨w.heap.size, 7, none⟩ = some (.int .u32 (v : Int)) := ChAt.at zc.at (i := 7) rfl
       have hS1 := hB1.size
       clear zc hw2 hB1 z1))
  go_quiet (first | (go_at_call 155; exact Calls.quiet_of_same ((r1 _).mono (fun _ _ h => ⟨h.1, h.2.symm⟩))))
  go_wp2_with fail
  obtain ⟨m, hm⟩ : ∃ m : Nat, (m : Int) = ((n : Int) + ((v : Int) + (t1 : Int) + (p4 : Int)) % 4294967296) % 4294967296 := ⟨(n + (v + t1 + p4) % 4294967296) % 4294967296, by omega⟩
  rw [← hm]
  have hm2 : m = (n + v + t1 + p4) % 4294967296 := by omega
  have HM := Lib.hid hm2
  have hm3 : m < 4294967296 := by omega
  clear hm hm2
  refine (r2 _).mono ?_
  rintro e w' ⟨rfl, rfl⟩
  go_simp
  have hlast : roundN ⟨a, b, c, d, e, f, g, v⟩ n = ⟨(m + t2 + q5) % 4294967296, a, b, c, (d + m) % 4294967296, e, f, g⟩ := by
    rw [HN.out, ← HM.out]
    congr 1
    omega
  have HL := Lib.hid hlast
  clear hlast
  go_wp2_with (first
    | (refine wpList_build_of rfl _ _ rfl #[(0, .int .u32 (((m + t2 + q5) % 4294967296 : Nat) : Int)), (1, .int .u32 (a : Int)), (2, .int .u32 (b : Int)), (3, .int .u32 (c : Int)), (4, .int .u32 (((d + m) % 4294967296 : Nat) : Int)), (5, .int .u32 (e : Int)), (6, .int .u32 (f : Int)), (7, .int .u32 (g : Int))] rfl (eCh.val ⟨[(m + t2 + q5) % 4294967296, a, b, c, (d + m) % 4294967296, e, f, g], rfl⟩) (run_build _ _ _ _ (built8 _ _ _ _ _ _ _ _)) ?_)
    | (refine wpList_store_e (E := eCh) (u := ⟨[(m + t2 + q5) % 4294967296, a, b, c, (d + m) % 4294967296, e, f, g], rfl⟩) sizeCh rfl (.tmp 4) (.tmp 71) rfl rfl z2 rfl ?_; intro w3 z3 k3))
  have hk3 := k3.below (B := w.heap.size) (fun j hj e => by omega) hB2.size
  have hB3 : Below w.heap.size w w3 := ⟨hk3.os.trans hB2.os, hk3.tape.trans hB2.tape, hk3.output.trans hB2.output, Nat.le_trans hB2.size hk3.size, fun i hi => (hk3.block i hi).trans (hB2.block i hi)⟩
  refine bodyPost_ret (results_e1 (E := eCh) Tryz.underlying114 rfl sizeCh rfl _ rfl z3) rfl ?_
  refine ⟨?_, hB3⟩
  rw [HL.out]
  rfl
end Go.Proofs.YtljihmbmjpcfaaaGreat
namespace Go.Proofs.YtljihmbmjpcfaaaGreat
open Go.RowKit Go.Shelf Go.Great
set_option maxRecDepth 100000

/-- A word's four bytes. -/
def bytes4 (n : Nat) : List UInt8 := [UInt8.ofNat (n / 16777216), UInt8.ofNat (n / 65536), UInt8.ofNat (n / 256), UInt8.ofNat n]
theorem b8_ofN (n : Nat) : B8 (UInt8.ofNat n) = .int .u8 ((n : Int) % 256) := by simp [B8, UInt8.toNat_ofNat']
set_option maxHeartbeats 1000000 in
theorem wordAt_any (w : World) (b o n c : Nat) (hn : 4 ≤ n) (y0 y1 y2 y3 : UInt8) (h0 : w.cell? ⟨b, o, none⟩ = some (B8 y0)) (h1 : w.cell? ⟨b, o + 1, none⟩ = some (B8 y1)) (h2 : w.cell? ⟨b, o + 2, none⟩ = some (B8 y2)) (h3 : w.cell? ⟨b, o + 3, none⟩ = some (B8 y3)) :
    Calls Tryz.prog 152 #[.slice (some ⟨b, o, none⟩) n c] w fun e W' => e = .returned (.int .u32 ((y0.toNat * 16777216 + y1.toNat * 65536 + y2.toNat * 256 + y3.toNat : Nat) : Int)) ∧ Below w.heap.size w W' := by
  have l0 := y0.toNat_lt
  have l1 := y1.toNat_lt
  have l2 := y2.toNat_lt
  have l3 := y3.toNat_lt
  generalize hz0 : y0.toNat = z0 at l0
  generalize hz1 : y1.toNat = z1 at l1
  generalize hz2 : y2.toNat = z2 at l2
  generalize hz3 : y3.toNat = z3 at l3
  simp only [B8, hz0, hz1, hz2, hz3] at h0 h1 h2 h3
  obtain ⟨s1, s2, s3, hE, x1, x2, x3⟩ := word_ors z0 z1 z2 z3 l0 l1 l2 l3
  have HE := Lib.hid hE
  clear hE
  have hz0' : (0 : Int) ≤ (z0 : Int) ∧ (z0 : Int) < 256 := by omega
  have hz1' : (0 : Int) ≤ (z1 : Int) ∧ (z1 : Int) < 256 := by omega
  have hz2' : (0 : Int) ≤ (z2 : Int) ∧ (z2 : Int) < 256 := by omega
  have hn0 : (0 : Int) < (n : Int) := by omega
  have hn1 : (1 : Int) < (n : Int) := by omega
  have hn2 : (2 : Int) < (n : Int) := by omega
  have hn3 : (3 : Int) < (n : Int) := by omega
  clear hz0 hz1 hz2 hz3
  go_enter Tryz.func152, Tryz.ntmps152
  go_wp2_with fail
  go_quiet (fail)
  go_wp2_with fail
  go_ret
  exact ⟨by rw [← HE.out]; rfl, ⟨rfl, rfl, rfl, Nat.le_refl _, fun _ _ => rfl⟩⟩

set_option maxHeartbeats 2000000 in
theorem putWord_any (w : World) (b o n c : Nat) (hn : 4 ≤ n) (x : Nat) (hx : x < 4294967296) (u0 u1 u2 u3 : Value) (h0 : w.cell? ⟨b, o, none⟩ = some u0) (h1 : w.cell? ⟨b, o + 1, none⟩ = some u1) (h2 : w.cell? ⟨b, o + 2, none⟩ = some u2) (h3 : w.cell? ⟨b, o + 3, none⟩ = some u3)
    (f : ∀ i, w.frozen? ⟨b, i, none⟩ = false) :
    Calls Tryz.prog 86 #[.slice (some ⟨b, o, none⟩) n c, .int .u32 (x : Int)] w fun e W' => (∃ v, e = .returned v) ∧ W' = (((w.setCell ⟨b, o, none⟩ (B8 (UInt8.ofNat (x / 16777216)))).setCell ⟨b, o + 1, none⟩ (B8 (UInt8.ofNat (x / 65536)))).setCell ⟨b, o + 2, none⟩ (B8 (UInt8.ofNat (x / 256)))).setCell ⟨b, o + 3, none⟩ (B8 (UInt8.ofNat x)) := by
  have hn0 : (0 : Int) < (n : Int) := by omega
  have hn1 : (1 : Int) < (n : Int) := by omega
  have hn2 : (2 : Int) < (n : Int) := by omega
  have hn3 : (3 : Int) < (n : Int) := by omega
  have f0 := f o
  have f1 := f (o + 1)
  have f2 := f (o + 2)
  have f3 := f (o + 3)
  clear f
  go_enter Tryz.func86, Tryz.ntmps86
  go_wp2_with fail
  go_end0
  refine ⟨⟨_, rfl⟩, ?_⟩
  have e0 : ((x / 16777216 : Nat) : Int) % 256 = (x : Int) / 16777216 := by omega
  have e1 : ((x / 65536 : Nat) : Int) % 256 = (x : Int) / 65536 % 256 := by omega
  have e2 : ((x / 256 : Nat) : Int) % 256 = (x : Int) / 256 % 256 := by omega
  rw [b8_ofN, b8_ofN, b8_ofN, b8_ofN, e0, e1, e2]

theorem slice_a64 (W : World) (b o k : Nat) (hk : k < 64) : (Instr.sliceAt 119 (.pointer (some ⟨b, o, none⟩)) (some (.int .i64 (k : Int))) none none).run Tryz.prog W = .ok (.slice (some ⟨b, o + k, none⟩) (64 - k) (64 - k)) W := by
  have ha : Tryz.prog.arrayLen 119 = 64 := by kernel_rfl
  have he : Tryz.prog.elem 119 = 5 := by kernel_rfl
  have hs := size1 W
  rw [run_sliceAt_array_l W 119 ⟨b, o, none⟩ (by kernel_rfl) .i64 (k : Int) (by omega) (by rw [ha]; omega), he, hs, ha]
  simp only [Result.andThen_ok, slicedAt, Int.toNat_natCast]
  rw [if_neg (by omega), add_plain, Nat.mul_one]
theorem slice_id (W : World) (b o k : Nat) (hk : k < 32) : (Instr.sliceAt 25 (.pointer (some ⟨b, o, none⟩)) (some (.int .i64 (k : Int))) none none).run Tryz.prog W = .ok (.slice (some ⟨b, o + k, none⟩) (32 - k) (32 - k)) W := by
  have ha : Tryz.prog.arrayLen 25 = 32 := by kernel_rfl
  have he : Tryz.prog.elem 25 = 5 := by kernel_rfl
  have hs := size1 W
  rw [run_sliceAt_array_l W 25 ⟨b, o, none⟩ (by kernel_rfl) .i64 (k : Int) (by omega) (by rw [ha]; omega), he, hs, ha]
  simp only [Result.andThen_ok, slicedAt, Int.toNat_natCast]
  rw [if_neg (by omega), add_plain, Nat.mul_one]
end Go.Proofs.YtljihmbmjpcfaaaGreat
