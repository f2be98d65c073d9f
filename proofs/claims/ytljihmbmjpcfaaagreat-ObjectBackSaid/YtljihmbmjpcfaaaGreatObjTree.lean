/- Whether an object may have a body: the program's. Whether a tree may be: the program's (tools/gentreemay.py). -/
import Derived.Test.YtljihmbmjpcfaaaGreatOneE
import Derived.Test.YtljihmbmjpcfaaaGreatObjAny
import Derived.Test.YtljihmbmjpcfaaaGreatHashSet
import Derived.Test.YtljihmbmjpcfaaaGreatDrawnV
namespace Go.Proofs.YtljihmbmjpcfaaaGreat
open Go.RowKit Go.Shelf Go.Great
set_option maxRecDepth 100000

/-- May an entry's name be, an entry. -/
def nameB (x : List UInt8) : Bool := decide (x ≠ []) && (decide (x.length ≤ 64) && !barred x)
def entryB (x : En) : Bool := (decide (x.kd = 1) || decide (x.kd = 2)) && nameB x.nm
theorem str_neq_nil (x : List UInt8) : ((Str x) = .string ⟨#[]⟩) ↔ x = [] := by
  constructor
  · intro h
    injection h with h
    injection h with h
    simpa using h
  · rintro rfl; rfl

set_option maxHeartbeats 1000000 in
theorem oEntryMay_any (w : World) (x : En) :
    Calls Tryz.prog 222 #[EnV x] w fun e W' => e = .returned (.bool (entryB x)) ∧ Below w.heap.size w W' := by
  have b1 : BoxE eEn 70 (w.alloc (.cells (encE x).toArray 70)) w.heap.size x := BoxE.new w x
  have hB1 : Below w.heap.size w (w.alloc (.cells (encE x).toArray 70)) := (Below.refl _ w).alloc (Nat.le_refl _) _
  have c0 := EnAt.nm b1.at
  have c1 := EnAt.kd b1.at
  simp only [Nat.zero_add] at c0 c1
  by_cases hk : x.kd = 1 ∨ x.kd = 2
  case neg =>
    have h1 : ¬ x.kd = 1 := fun h => hk (.inl h)
    have h2 : ¬ x.kd = 2 := fun h => hk (.inr h)
    have HE := Lib.hid (show entryB x = false by simp [entryB, h1, h2])
    have e1 : (x.kd != 1) = true := by simp [h1]
    have e2 : (x.kd != 2) = true := by simp [h2]
    clear hk
    go_enter Tryz.func222, Tryz.ntmps222
    go_wp2_with fail
    go_ret
    exact ⟨by rw [HE.out]; rfl, hB1⟩
  case pos =>
    have HK := Lib.hid (show entryB x = nameB x.nm by rcases hk with h | h <;> simp [entryB, h])
    by_cases h0 : x.nm = []
    · have HE := Lib.hid (show entryB x = false by rw [HK.out, h0]; rfl)
      rcases hk with h | h
      · go_enter Tryz.func222, Tryz.ntmps222
        go_wp2_with fail
        go_ret
        exact ⟨by rw [HE.out]; rfl, hB1⟩
      · go_enter Tryz.func222, Tryz.ntmps222
        go_wp2_with fail
        go_ret
        exact ⟨by rw [HE.out]; rfl, hB1⟩
    · have hl : (x.nm.length : Int) ≤ 64 ∨ ¬ (x.nm.length : Int) ≤ 64 := Classical.em _
      rcases hl with hl | hl
      case inr =>
        have HE := Lib.hid (show entryB x = false by rw [HK.out]; simp [nameB]; omega)
        rcases hk with h | h
        · go_enter Tryz.func222, Tryz.ntmps222
          go_wp2_with fail
          go_ret
          exact ⟨by rw [HE.out]; rfl, hB1⟩
        · go_enter Tryz.func222, Tryz.ntmps222
          go_wp2_with fail
          go_ret
          exact ⟨by rw [HE.out]; rfl, hB1⟩
      case inl =>
        have h0' : x.nm.isEmpty = false := by simpa using h0
        have HE := Lib.hid (show entryB x = !barred x.nm by rw [HK.out]; simp [nameB, h0]; omega)
        rcases hk with h | h
        · go_enter Tryz.func222, Tryz.ntmps222
          go_wp2_with fail
          refine (sContainsAny_any _ x.nm (by omega)).mono ?_
          rintro e w2 ⟨rfl, h2⟩
          go_wp2_with fail
          go_ret
          exact ⟨by rw [HE.out]; rfl, hB1.trans (h2.mono hB1.size)⟩
        · go_enter Tryz.func222, Tryz.ntmps222
          go_wp2_with fail
          refine (sContainsAny_any _ x.nm (by omega)).mono ?_
          rintro e w2 ⟨rfl, h2⟩
          go_wp2_with fail
          go_ret
          exact ⟨by rw [HE.out]; rfl, hB1.trans (h2.mono hB1.size)⟩
end Go.Proofs.YtljihmbmjpcfaaaGreat
namespace Go.Proofs.YtljihmbmjpcfaaaGreat
open Go.RowKit Go.Shelf Go.Great
set_option maxRecDepth 100000

/-- May the entry at a place stand there. -/
def entryAt (es : List En) (i : Nat) : Bool :=
  match es[i]? with
  | none => true
  | some x => entryB x && (match i with
    | 0 => true
    | j + 1 => match es[j]? with
      | none => true
      | some y => Op.bytesLess y.nm x.nm)
def treeB (es : List En) : Bool := decide (es.length ≤ 32) && (List.range es.length).all (entryAt es)
theorem treeB_far {es : List En} (h : ¬ es.length ≤ 32) : treeB es = false := by simp [treeB, h]
theorem treeB_not {es : List En} {k : Nat} (hk : k < es.length) (h : entryAt es k = false) : treeB es = false := by
  unfold treeB
  have : (List.range es.length).all (entryAt es) = false := by
    rw [List.all_eq_false]
    exact ⟨k, List.mem_range.2 hk, by simp [h]⟩
  rw [this, Bool.and_false]
theorem treeB_all {es : List En} (h : es.length ≤ 32) (ha : ∀ i, i < es.length → entryAt es i = true) : treeB es = true := by
  unfold treeB
  rw [decide_eq_true h, Bool.true_and, List.all_eq_true]
  exact fun i hi => ha i (List.mem_range.1 hi)
theorem entryAt_zero {es : List En} {x : En} (hx : es[0]? = some x) : entryAt es 0 = entryB x := by simp [entryAt, hx]
theorem entryAt_succ {es : List En} {j : Nat} {x y : En} (hx : es[j + 1]? = some x) (hy : es[j]? = some y) : entryAt es (j + 1) = (entryB x && Op.bytesLess y.nm x.nm) := by simp [entryAt, hx, hy]
theorem entryAt_no {es : List En} {k : Nat} {x : En} (hx : es[k]? = some x) (h : entryB x = false) : entryAt es k = false := by simp [entryAt, hx, h]
theorem cellB {w w' : World} {p : Addr} {v : Value} (hb : Below w.heap.size w w') (h : w.cell? p = some v) : w'.cell? p = some v := (hb.cell (World.block_lt_of_cell? _ _ h)).trans h

set_option maxHeartbeats 4000000 in
theorem treeMay_any (w : World) (g : Nat) (s : Sl) (es : List En) (hb : BoxTree w g s) (hs : Es eEn w s.v es) :
    Calls Tryz.prog 218 #[.pointer (some ⟨g, 0, none⟩)] w fun e W' => e = .returned (.bool (treeB es)) ∧ Below w.heap.size w W' := by
  have hc := hb.cell
  obtain ⟨A, n, c⟩ := s
  obtain ⟨A', c', he, hcap⟩ := hs.form
  injection he with e1 e2 e3
  subst e1 e2 e3
  change Boxed w g 165 (.slice A es.length c) at hb
  change w.cell? _ = some (.slice A es.length c) at hc
  change Es eEn w (.slice A es.length c) es at hs
  by_cases hlen : 32 < (es.length : Int)
  case pos =>
    have HE := Lib.hid (treeB_far (es := es) (by omega))
    go_enter Tryz.func218, Tryz.ntmps218
    go_wp2_with fail
    go_ret
    exact ⟨by rw [HE.out]; rfl, Below.refl _ _⟩
  case neg =>
    have HT := Lib.hid (fun h => treeB_all (es := es) (by omega) h)
    have HN := Lib.hid (fun k hk h => treeB_not (es := es) (k := k) hk h)
    have HS := Lib.hid hs
    clear hs
    go_enter Tryz.func218, Tryz.ntmps218
    go_wp2_with fail
    go_loopw [16] (fun i wr => ∃ k : Nat, k ≤ es.length ∧ i = .int .i64 k ∧ (∀ j, j < k → entryAt es j = true) ∧ Below w.heap.size w wr) (fun i _ => es.length - (RowKit.intOf i).toNat)
    case atStart => exact ⟨0, by omega, rfl, fun j hj => by omega, Below.refl _ _⟩
    case round =>
      obtain ⟨k, hk, rfl, hall, hB⟩ := hrel
      have HALL := Lib.hid hall
      clear hall
      by_cases hlt : k < es.length
      case neg =>
        obtain rfl : k = es.length := by omega
        go_wp2_with fail
        go_ret
        exact ⟨by rw [HT.out HALL.out]; rfl, hB⟩
      case pos =>
        obtain ⟨x, hxk⟩ : ∃ x, es[k]? = some x := ⟨_, List.getElem?_eq_getElem hlt⟩
        obtain ⟨b, off, rfl, hat⟩ := HS.out.at hxk
        have HX := Lib.hid hxk
        have hat1 : ElAt eEn wr b (off + k * 34) x := hat.below hB
        have hbr : Boxed wr g 165 _ := (Kept.of_below hB (Nat.le_refl _) (fun _ => False)).boxed hb (fun h => h)
        have hcr := hbr.cell
        clear hxk
        have hklt : (k : Int) < (es.length : Int) := by omega
        go_wp2_with (first
          | (refine elEn.wpLoad rfl (.tmp 19) rfl rfl hat1 ?_)
          | (refine wpList_alloc_e (E := eEn) (z := zeroEn) zeroEn_run rfl rfl ?_)
          | (refine wpList_store_e (E := eEn) sizeEn rfl (.tmp 4) (.tmp 20) rfl rfl (BoxE.new (E := eEn) _ _) rfl ?_; intro w3 b3 k3))
        have hBw : Below wr.heap.size wr w3 := (((Kept.refl (· = wr.heap.size) wr).alloc _).same k3).below (fun j _ e => by subst e; exact Nat.le_refl _) (Nat.le_refl _)
        have hB3 := hB.trans (hBw.mono hB.size)
        have cn := EnAt.nm b3.at
        have cg := cellB hBw hcr
        by_cases hE : entryB x = true
        case neg =>
          have HF := Lib.hid (HN.out k hlt (entryAt_no HX.out (by simpa using hE)))
          have HE := Lib.hid (show entryB x = false by simpa using hE)
          clear hE k3
          refine wp_held (fun W1 => Below w3.heap.size w3 W1) (by kernel_rfl) ?_
          have hS0 : Below w3.heap.size w3 w3.drew := (Below.refl _ w3).drew
          refine wpAnyH_next (i := 0) (v := EnV x) rfl (by kernel_rfl) (by kernel_rfl) (by kernel_rfl) (fun _ _ _ h => h) (by kernel_rfl) (fun W1 hW1 => by exact exec_load_el (E := eEn) Tryz.underlying70 rfl sizeEn rfl rfl (b3.at.below hW1)) hS0 (fun a' ha' => ?_)
          simp only [Act.put, List.getElem_toArray, List.getElem_cons_zero, List.setIfInBounds_toArray, List.set_cons_succ, List.set_cons_zero] at ha'
          subst ha'
          refine wpAnyH_want (i := 1) (by kernel_rfl) rfl (by kernel_rfl) (fun K hK => ?_)
          unfold Oper.wp
          go_simp
          refine ((oEntryMay_any _ x).mono (fun e W' h => (⟨h.1.trans (by rw [HE.out]), h.2⟩ : e = .returned (.bool false) ∧ _))).mono ?_
          rintro e a1 ⟨rfl, ha1⟩
          have hSa1 : Below w3.heap.size w3 a1 := hS0.trans (ha1.mono hS0.size)
          clear ha1
          refine hK _ _ hSa1 ?_
          clear hK K
          refine wpAnyH_next (i := 2) (v := .bool true) rfl (by kernel_rfl) (by kernel_rfl) (by kernel_rfl) (fun _ _ _ h => h) (by kernel_rfl) (fun W1 hW1 => by go_simp; done) hSa1 (fun a' ha' => ?_)
          simp only [Act.put, List.getElem_toArray, List.getElem_cons_succ, List.getElem_cons_zero, List.setIfInBounds_toArray, List.set_cons_succ, List.set_cons_zero] at ha'
          subst ha'
          refine wpAnyH_next (i := 3) (v := .bool true) rfl (by kernel_rfl) (by kernel_rfl) (by kernel_rfl) (fun _ _ _ h => h) (by kernel_rfl) (fun W1 hW1 => by go_simp; done) hSa1 (fun a' ha' => ?_)
          simp only [Act.put, List.getElem_toArray, List.getElem_cons_succ, List.getElem_cons_zero, List.setIfInBounds_toArray, List.set_cons_succ, List.set_cons_zero] at ha'
          subst ha'
          refine wpAnyH_skip (i := 4) rfl (by kernel_rfl) (by kernel_rfl) (by kernel_rfl) (fun _ _ _ h => h) (by kernel_rfl) hSa1 (fun a' ha' => ?_)
          simp only [Act.put, List.getElem_toArray, List.getElem_cons_succ, List.getElem_cons_zero, List.setIfInBounds_toArray, List.set_cons_succ, List.set_cons_zero] at ha'
          subst ha'
          refine wpAnyH_skip (i := 5) rfl (by kernel_rfl) (by kernel_rfl) (by kernel_rfl) (fun _ _ _ h => h) (by kernel_rfl) hSa1 (fun a' ha' => ?_)
          simp only [Act.put, List.getElem_toArray, List.getElem_cons_succ, List.getElem_cons_zero, List.setIfInBounds_toArray, List.set_cons_succ, List.set_cons_zero] at ha'
          subst ha'
          refine wpAnyH_skip (i := 6) rfl (by kernel_rfl) (by kernel_rfl) (by kernel_rfl) (fun _ _ _ h => h) (by kernel_rfl) hSa1 (fun a' ha' => ?_)
          simp only [Act.put, List.getElem_toArray, List.getElem_cons_succ, List.getElem_cons_zero, List.setIfInBounds_toArray, List.set_cons_succ, List.set_cons_zero] at ha'
          subst ha'
          refine wpAnyH_skip (i := 7) rfl (by kernel_rfl) (by kernel_rfl) (by kernel_rfl) (fun _ _ _ h => h) (by kernel_rfl) hSa1 (fun a' ha' => ?_)
          simp only [Act.put, List.getElem_toArray, List.getElem_cons_succ, List.getElem_cons_zero, List.setIfInBounds_toArray, List.set_cons_succ, List.set_cons_zero] at ha'
          subst ha'
          refine wpAnyH_skip (i := 8) rfl (by kernel_rfl) (by kernel_rfl) (by kernel_rfl) (fun _ _ _ h => h) (by kernel_rfl) hSa1 (fun a' ha' => ?_)
          simp only [Act.put, List.getElem_toArray, List.getElem_cons_succ, List.getElem_cons_zero, List.setIfInBounds_toArray, List.set_cons_succ, List.set_cons_zero] at ha'
          subst ha'
          refine wpAnyH_skip (i := 9) rfl (by kernel_rfl) (by kernel_rfl) (by kernel_rfl) (fun _ _ _ h => h) (by kernel_rfl) hSa1 (fun a' ha' => ?_)
          simp only [Act.put, List.getElem_toArray, List.getElem_cons_succ, List.getElem_cons_zero, List.setIfInBounds_toArray, List.set_cons_succ, List.set_cons_zero] at ha'
          subst ha'
          refine wpAnyH_skip (i := 10) rfl (by kernel_rfl) (by kernel_rfl) (by kernel_rfl) (fun _ _ _ h => h) (by kernel_rfl) hSa1 (fun a' ha' => ?_)
          simp only [Act.put, List.getElem_toArray, List.getElem_cons_succ, List.getElem_cons_zero, List.setIfInBounds_toArray, List.set_cons_succ, List.set_cons_zero] at ha'
          subst ha'
          refine wpAnyH_skip (i := 11) rfl (by kernel_rfl) (by kernel_rfl) (by kernel_rfl) (fun _ _ _ h => h) (by kernel_rfl) hSa1 (fun a' ha' => ?_)
          simp only [Act.put, List.getElem_toArray, List.getElem_cons_succ, List.getElem_cons_zero, List.setIfInBounds_toArray, List.set_cons_succ, List.set_cons_zero] at ha'
          subst ha'
          refine wpAnyH_skip (i := 12) rfl (by kernel_rfl) (by kernel_rfl) (by kernel_rfl) (fun _ _ _ h => h) (by kernel_rfl) hSa1 (fun a' ha' => ?_)
          simp only [Act.put, List.getElem_toArray, List.getElem_cons_succ, List.getElem_cons_zero, List.setIfInBounds_toArray, List.set_cons_succ, List.set_cons_zero] at ha'
          subst ha'
          refine wpAnyH_skip (i := 13) rfl (by kernel_rfl) (by kernel_rfl) (by kernel_rfl) (fun _ _ _ h => h) (by kernel_rfl) hSa1 (fun a' ha' => ?_)
          simp only [Act.put, List.getElem_toArray, List.getElem_cons_succ, List.getElem_cons_zero, List.setIfInBounds_toArray, List.set_cons_succ, List.set_cons_zero] at ha'
          subst ha'
          refine wpAnyH_skip (i := 14) rfl (by kernel_rfl) (by kernel_rfl) (by kernel_rfl) (fun _ _ _ h => h) (by kernel_rfl) hSa1 (fun a' ha' => ?_)
          simp only [Act.put, List.getElem_toArray, List.getElem_cons_succ, List.getElem_cons_zero, List.setIfInBounds_toArray, List.set_cons_succ, List.set_cons_zero] at ha'
          subst ha'
          refine wpAnyH_skip (i := 15) rfl (by kernel_rfl) (by kernel_rfl) (by kernel_rfl) (fun _ _ _ h => h) (by kernel_rfl) hSa1 (fun a' ha' => ?_)
          simp only [Act.put, List.getElem_toArray, List.getElem_cons_succ, List.getElem_cons_zero, List.setIfInBounds_toArray, List.set_cons_succ, List.set_cons_zero] at ha'
          subst ha'
          refine wpAnyH_skip (i := 16) rfl (by kernel_rfl) (by kernel_rfl) (by kernel_rfl) (fun _ _ _ h => h) (by kernel_rfl) hSa1 (fun a' ha' => ?_)
          simp only [Act.put, List.getElem_toArray, List.getElem_cons_succ, List.getElem_cons_zero, List.setIfInBounds_toArray, List.set_cons_succ, List.set_cons_zero] at ha'
          subst ha'
          refine wpAnyH_skip (i := 17) rfl (by kernel_rfl) (by kernel_rfl) (by kernel_rfl) (fun _ _ _ h => h) (by kernel_rfl) hSa1 (fun a' ha' => ?_)
          simp only [Act.put, List.getElem_toArray, List.getElem_cons_succ, List.getElem_cons_zero, List.setIfInBounds_toArray, List.set_cons_succ, List.set_cons_zero] at ha'
          subst ha'
          refine wpAnyH_skip (i := 18) rfl (by kernel_rfl) (by kernel_rfl) (by kernel_rfl) (fun _ _ _ h => h) (by kernel_rfl) hSa1 (fun a' ha' => ?_)
          simp only [Act.put, List.getElem_toArray, List.getElem_cons_succ, List.getElem_cons_zero, List.setIfInBounds_toArray, List.set_cons_succ, List.set_cons_zero] at ha'
          subst ha'
          refine wpAnyH_skip (i := 19) rfl (by kernel_rfl) (by kernel_rfl) (by kernel_rfl) (fun _ _ _ h => h) (by kernel_rfl) hSa1 (fun a' ha' => ?_)
          simp only [Act.put, List.getElem_toArray, List.getElem_cons_succ, List.getElem_cons_zero, List.setIfInBounds_toArray, List.set_cons_succ, List.set_cons_zero] at ha'
          subst ha'
          refine wpAnyH_next (i := 20) (v := .bool true) rfl (by kernel_rfl) (by kernel_rfl) (by kernel_rfl) (fun _ _ _ h => h) (by kernel_rfl) (fun W1 hW1 => by go_simp; done) hSa1 (fun a' ha' => ?_)
          simp only [Act.put, List.getElem_toArray, List.getElem_cons_succ, List.getElem_cons_zero, List.setIfInBounds_toArray, List.set_cons_succ, List.set_cons_zero] at ha'
          subst ha'
          refine wpAnyH_fin (by kernel_rfl) ?_ _
          go_wp2_with fail
          go_ret
          exact ⟨by rw [HF.out]; rfl, hB3.trans (hSa1.mono hB3.size)⟩
        case pos =>
          have HE := Lib.hid hE
          clear hE k3
          cases k with
          | zero =>
            have HK := Lib.hid ((entryAt_zero HX.out).trans HE.out)
            refine wp_held (fun W1 => Below w3.heap.size w3 W1) (by kernel_rfl) ?_
            have hS0 : Below w3.heap.size w3 w3.drew := (Below.refl _ w3).drew
            refine wpAnyH_next (i := 0) (v := EnV x) rfl (by kernel_rfl) (by kernel_rfl) (by kernel_rfl) (fun _ _ _ h => h) (by kernel_rfl) (fun W1 hW1 => by exact exec_load_el (E := eEn) Tryz.underlying70 rfl sizeEn rfl rfl (b3.at.below hW1)) hS0 (fun a' ha' => ?_)
            simp only [Act.put, List.getElem_toArray, List.getElem_cons_zero, List.setIfInBounds_toArray, List.set_cons_succ, List.set_cons_zero] at ha'
            subst ha'
            refine wpAnyH_want (i := 1) (by kernel_rfl) rfl (by kernel_rfl) (fun K hK => ?_)
            unfold Oper.wp
            go_simp
            refine ((oEntryMay_any _ x).mono (fun e W' h => (⟨h.1.trans (by rw [HE.out]), h.2⟩ : e = .returned (.bool true) ∧ _))).mono ?_
            rintro e b1 ⟨rfl, hb1⟩
            have hSb1 : Below w3.heap.size w3 b1 := hS0.trans (hb1.mono hS0.size)
            clear hb1
            refine hK _ _ hSb1 ?_
            clear hK K
            refine wpAnyH_next (i := 2) (v := .bool false) rfl (by kernel_rfl) (by kernel_rfl) (by kernel_rfl) (fun _ _ _ h => h) (by kernel_rfl) (fun W1 hW1 => by go_simp; done) hSb1 (fun a' ha' => ?_)
            simp only [Act.put, List.getElem_toArray, List.getElem_cons_succ, List.getElem_cons_zero, List.setIfInBounds_toArray, List.set_cons_succ, List.set_cons_zero] at ha'
            subst ha'
            refine wpAnyH_next (i := 3) (v := .bool false) rfl (by kernel_rfl) (by kernel_rfl) (by kernel_rfl) (fun _ _ _ h => h) (by kernel_rfl) (fun W1 hW1 => by go_simp; done) hSb1 (fun a' ha' => ?_)
            simp only [Act.put, List.getElem_toArray, List.getElem_cons_succ, List.getElem_cons_zero, List.setIfInBounds_toArray, List.set_cons_succ, List.set_cons_zero] at ha'
            subst ha'
            refine wpAnyH_next (i := 4) (v := .int .i64 ((0 : Nat) : Int)) rfl (by kernel_rfl) (by kernel_rfl) (by kernel_rfl) (fun _ _ _ h => h) (by kernel_rfl) (fun W1 hW1 => by go_simp; done) hSb1 (fun a' ha' => ?_)
            simp only [Act.put, List.getElem_toArray, List.getElem_cons_succ, List.getElem_cons_zero, List.setIfInBounds_toArray, List.set_cons_succ, List.set_cons_zero] at ha'
            subst ha'
            refine wpAnyH_next (i := 5) (v := .bool false) rfl (by kernel_rfl) (by kernel_rfl) (by kernel_rfl) (fun _ _ _ h => h) (by kernel_rfl) (fun W1 hW1 => by go_simp; done) hSb1 (fun a' ha' => ?_)
            simp only [Act.put, List.getElem_toArray, List.getElem_cons_succ, List.getElem_cons_zero, List.setIfInBounds_toArray, List.set_cons_succ, List.set_cons_zero] at ha'
            subst ha'
            refine wpAnyH_next (i := 6) (v := .bool false) rfl (by kernel_rfl) (by kernel_rfl) (by kernel_rfl) (fun _ _ _ h => h) (by kernel_rfl) (fun W1 hW1 => by go_simp; done) hSb1 (fun a' ha' => ?_)
            simp only [Act.put, List.getElem_toArray, List.getElem_cons_succ, List.getElem_cons_zero, List.setIfInBounds_toArray, List.set_cons_succ, List.set_cons_zero] at ha'
            subst ha'
            refine wpAnyH_skip (i := 7) rfl (by kernel_rfl) (by kernel_rfl) (by kernel_rfl) (fun _ _ _ h => h) (by kernel_rfl) hSb1 (fun a' ha' => ?_)
            simp only [Act.put, List.getElem_toArray, List.getElem_cons_succ, List.getElem_cons_zero, List.setIfInBounds_toArray, List.set_cons_succ, List.set_cons_zero] at ha'
            subst ha'
            refine wpAnyH_skip (i := 8) rfl (by kernel_rfl) (by kernel_rfl) (by kernel_rfl) (fun _ _ _ h => h) (by kernel_rfl) hSb1 (fun a' ha' => ?_)
            simp only [Act.put, List.getElem_toArray, List.getElem_cons_succ, List.getElem_cons_zero, List.setIfInBounds_toArray, List.set_cons_succ, List.set_cons_zero] at ha'
            subst ha'
            refine wpAnyH_skip (i := 9) rfl (by kernel_rfl) (by kernel_rfl) (by kernel_rfl) (fun _ _ _ h => h) (by kernel_rfl) hSb1 (fun a' ha' => ?_)
            simp only [Act.put, List.getElem_toArray, List.getElem_cons_succ, List.getElem_cons_zero, List.setIfInBounds_toArray, List.set_cons_succ, List.set_cons_zero] at ha'
            subst ha'
            refine wpAnyH_skip (i := 10) rfl (by kernel_rfl) (by kernel_rfl) (by kernel_rfl) (fun _ _ _ h => h) (by kernel_rfl) hSb1 (fun a' ha' => ?_)
            simp only [Act.put, List.getElem_toArray, List.getElem_cons_succ, List.getElem_cons_zero, List.setIfInBounds_toArray, List.set_cons_succ, List.set_cons_zero] at ha'
            subst ha'
            refine wpAnyH_skip (i := 11) rfl (by kernel_rfl) (by kernel_rfl) (by kernel_rfl) (fun _ _ _ h => h) (by kernel_rfl) hSb1 (fun a' ha' => ?_)
            simp only [Act.put, List.getElem_toArray, List.getElem_cons_succ, List.getElem_cons_zero, List.setIfInBounds_toArray, List.set_cons_succ, List.set_cons_zero] at ha'
            subst ha'
            refine wpAnyH_skip (i := 12) rfl (by kernel_rfl) (by kernel_rfl) (by kernel_rfl) (fun _ _ _ h => h) (by kernel_rfl) hSb1 (fun a' ha' => ?_)
            simp only [Act.put, List.getElem_toArray, List.getElem_cons_succ, List.getElem_cons_zero, List.setIfInBounds_toArray, List.set_cons_succ, List.set_cons_zero] at ha'
            subst ha'
            refine wpAnyH_skip (i := 13) rfl (by kernel_rfl) (by kernel_rfl) (by kernel_rfl) (fun _ _ _ h => h) (by kernel_rfl) hSb1 (fun a' ha' => ?_)
            simp only [Act.put, List.getElem_toArray, List.getElem_cons_succ, List.getElem_cons_zero, List.setIfInBounds_toArray, List.set_cons_succ, List.set_cons_zero] at ha'
            subst ha'
            refine wpAnyH_skip (i := 14) rfl (by kernel_rfl) (by kernel_rfl) (by kernel_rfl) (fun _ _ _ h => h) (by kernel_rfl) hSb1 (fun a' ha' => ?_)
            simp only [Act.put, List.getElem_toArray, List.getElem_cons_succ, List.getElem_cons_zero, List.setIfInBounds_toArray, List.set_cons_succ, List.set_cons_zero] at ha'
            subst ha'
            refine wpAnyH_skip (i := 15) rfl (by kernel_rfl) (by kernel_rfl) (by kernel_rfl) (fun _ _ _ h => h) (by kernel_rfl) hSb1 (fun a' ha' => ?_)
            simp only [Act.put, List.getElem_toArray, List.getElem_cons_succ, List.getElem_cons_zero, List.setIfInBounds_toArray, List.set_cons_succ, List.set_cons_zero] at ha'
            subst ha'
            refine wpAnyH_skip (i := 16) rfl (by kernel_rfl) (by kernel_rfl) (by kernel_rfl) (fun _ _ _ h => h) (by kernel_rfl) hSb1 (fun a' ha' => ?_)
            simp only [Act.put, List.getElem_toArray, List.getElem_cons_succ, List.getElem_cons_zero, List.setIfInBounds_toArray, List.set_cons_succ, List.set_cons_zero] at ha'
            subst ha'
            refine wpAnyH_skip (i := 17) rfl (by kernel_rfl) (by kernel_rfl) (by kernel_rfl) (fun _ _ _ h => h) (by kernel_rfl) hSb1 (fun a' ha' => ?_)
            simp only [Act.put, List.getElem_toArray, List.getElem_cons_succ, List.getElem_cons_zero, List.setIfInBounds_toArray, List.set_cons_succ, List.set_cons_zero] at ha'
            subst ha'
            refine wpAnyH_skip (i := 18) rfl (by kernel_rfl) (by kernel_rfl) (by kernel_rfl) (fun _ _ _ h => h) (by kernel_rfl) hSb1 (fun a' ha' => ?_)
            simp only [Act.put, List.getElem_toArray, List.getElem_cons_succ, List.getElem_cons_zero, List.setIfInBounds_toArray, List.set_cons_succ, List.set_cons_zero] at ha'
            subst ha'
            refine wpAnyH_next (i := 19) (v := .bool false) rfl (by kernel_rfl) (by kernel_rfl) (by kernel_rfl) (fun _ _ _ h => h) (by kernel_rfl) (fun W1 hW1 => by go_simp; done) hSb1 (fun a' ha' => ?_)
            simp only [Act.put, List.getElem_toArray, List.getElem_cons_succ, List.getElem_cons_zero, List.setIfInBounds_toArray, List.set_cons_succ, List.set_cons_zero] at ha'
            subst ha'
            refine wpAnyH_next (i := 20) (v := .bool false) rfl (by kernel_rfl) (by kernel_rfl) (by kernel_rfl) (fun _ _ _ h => h) (by kernel_rfl) (fun W1 hW1 => by go_simp; done) hSb1 (fun a' ha' => ?_)
            simp only [Act.put, List.getElem_toArray, List.getElem_cons_succ, List.getElem_cons_zero, List.setIfInBounds_toArray, List.set_cons_succ, List.set_cons_zero] at ha'
            subst ha'
            refine wpAnyH_fin (by kernel_rfl) ?_ _
            go_wp2_with fail
            go_roundw
            case rel => exact ⟨1, by omega, rfl, fun j hj => by obtain rfl : j = 0 := by omega
                                                                exact HK.out, hB3.trans (hSb1.mono hB3.size)⟩
            case measure => simp [RowKit.intOf]; omega
          | succ j =>
            obtain ⟨y, hyj⟩ : ∃ y, es[j]? = some y := ⟨_, List.getElem?_eq_getElem (by omega)⟩
            obtain ⟨b', off', he', haty⟩ := HS.out.at hyj
            injection he' with he'
            injection he' with e1 e2
            subst e1 e2
            have HK := Lib.hid ((entryAt_succ HX.out hyj).trans (by rw [HE.out, Bool.true_and]))
            have cy := cellB hB3 (EnAt.nm (show ElAt eEn w b (off + j * 34) y from haty))
            have hjl : (j : Int) < (es.length : Int) := by omega
            have hpos : (0 : Int) < ((j + 1 : Nat) : Int) := by omega
            clear hyj haty
            generalize hbl : Op.bytesLess y.nm x.nm = bl at HK
            refine wp_held (fun W1 => Below w3.heap.size w3 W1) (by kernel_rfl) ?_
            have hS0 : Below w3.heap.size w3 w3.drew := (Below.refl _ w3).drew
            refine wpAnyH_next (i := 0) (v := EnV x) rfl (by kernel_rfl) (by kernel_rfl) (by kernel_rfl) (fun _ _ _ h => h) (by kernel_rfl) (fun W1 hW1 => by exact exec_load_el (E := eEn) Tryz.underlying70 rfl sizeEn rfl rfl (b3.at.below hW1)) hS0 (fun a' ha' => ?_)
            simp only [Act.put, List.getElem_toArray, List.getElem_cons_zero, List.setIfInBounds_toArray, List.set_cons_succ, List.set_cons_zero] at ha'
            subst ha'
            refine wpAnyH_want (i := 1) (by kernel_rfl) rfl (by kernel_rfl) (fun K hK => ?_)
            unfold Oper.wp
            go_simp
            refine ((oEntryMay_any _ x).mono (fun e W' h => (⟨h.1.trans (by rw [HE.out]), h.2⟩ : e = .returned (.bool true) ∧ _))).mono ?_
            rintro e c1 ⟨rfl, hc1⟩
            have hSc1 : Below w3.heap.size w3 c1 := hS0.trans (hc1.mono hS0.size)
            clear hc1
            refine hK _ _ hSc1 ?_
            clear hK K
            refine wpAnyH_next (i := 2) (v := .bool false) rfl (by kernel_rfl) (by kernel_rfl) (by kernel_rfl) (fun _ _ _ h => h) (by kernel_rfl) (fun W1 hW1 => by go_simp; done) hSc1 (fun a' ha' => ?_)
            simp only [Act.put, List.getElem_toArray, List.getElem_cons_succ, List.getElem_cons_zero, List.setIfInBounds_toArray, List.set_cons_succ, List.set_cons_zero] at ha'
            subst ha'
            refine wpAnyH_next (i := 3) (v := .bool false) rfl (by kernel_rfl) (by kernel_rfl) (by kernel_rfl) (fun _ _ _ h => h) (by kernel_rfl) (fun W1 hW1 => by go_simp; done) hSc1 (fun a' ha' => ?_)
            simp only [Act.put, List.getElem_toArray, List.getElem_cons_succ, List.getElem_cons_zero, List.setIfInBounds_toArray, List.set_cons_succ, List.set_cons_zero] at ha'
            subst ha'
            refine wpAnyH_next (i := 4) (v := .int .i64 ((j + 1 : Nat) : Int)) rfl (by kernel_rfl) (by kernel_rfl) (by kernel_rfl) (fun _ _ _ h => h) (by kernel_rfl) (fun W1 hW1 => by go_simp; done) hSc1 (fun a' ha' => ?_)
            simp only [Act.put, List.getElem_toArray, List.getElem_cons_succ, List.getElem_cons_zero, List.setIfInBounds_toArray, List.set_cons_succ, List.set_cons_zero] at ha'
            subst ha'
            refine wpAnyH_next (i := 5) (v := .bool true) rfl (by kernel_rfl) (by kernel_rfl) (by kernel_rfl) (fun _ _ _ h => h) (by kernel_rfl) (fun W1 hW1 => by first | (go_simp; done) | (go_simp; omega)) hSc1 (fun a' ha' => ?_)
            simp only [Act.put, List.getElem_toArray, List.getElem_cons_succ, List.getElem_cons_zero, List.setIfInBounds_toArray, List.set_cons_succ, List.set_cons_zero] at ha'
            subst ha'
            refine wpAnyH_next (i := 6) (v := .bool true) rfl (by kernel_rfl) (by kernel_rfl) (by kernel_rfl) (fun _ _ _ h => h) (by kernel_rfl) (fun W1 hW1 => by go_simp; done) hSc1 (fun a' ha' => ?_)
            simp only [Act.put, List.getElem_toArray, List.getElem_cons_succ, List.getElem_cons_zero, List.setIfInBounds_toArray, List.set_cons_succ, List.set_cons_zero] at ha'
            subst ha'
            refine wpAnyH_next (i := 7) (v := .pointer (some ⟨g, 0, none⟩)) rfl (by kernel_rfl) (by kernel_rfl) (by kernel_rfl) (fun _ _ _ h => h) (by kernel_rfl) (fun W1 hW1 => by go_simp; done) hSc1 (fun a' ha' => ?_)
            simp only [Act.put, List.getElem_toArray, List.getElem_cons_succ, List.getElem_cons_zero, List.setIfInBounds_toArray, List.set_cons_succ, List.set_cons_zero] at ha'
            subst ha'
            refine wpAnyH_next (i := 8) (v := .pointer (some ⟨g, 0, none⟩)) rfl (by kernel_rfl) (by kernel_rfl) (by kernel_rfl) (fun _ _ _ h => h) (by kernel_rfl) (fun W1 hW1 => by go_simp; done) hSc1 (fun a' ha' => ?_)
            simp only [Act.put, List.getElem_toArray, List.getElem_cons_succ, List.getElem_cons_zero, List.setIfInBounds_toArray, List.set_cons_succ, List.set_cons_zero] at ha'
            subst ha'
            refine wpAnyH_next (i := 9) (v := .pointer (some ⟨g, 0, none⟩)) rfl (by kernel_rfl) (by kernel_rfl) (by kernel_rfl) (fun _ _ _ h => h) (by kernel_rfl) (fun W1 hW1 => by have e1 := cellB hW1 cg; go_simp; done) hSc1 (fun a' ha' => ?_)
            simp only [Act.put, List.getElem_toArray, List.getElem_cons_succ, List.getElem_cons_zero, List.setIfInBounds_toArray, List.set_cons_succ, List.set_cons_zero] at ha'
            subst ha'
            refine wpAnyH_next (i := 10) (v := .slice (some ⟨b, off, none⟩) es.length c) rfl (by kernel_rfl) (by kernel_rfl) (by kernel_rfl) (fun _ _ _ h => h) (by kernel_rfl) (fun W1 hW1 => by have e1 := cellB hW1 cg; go_simp; done) hSc1 (fun a' ha' => ?_)
            simp only [Act.put, List.getElem_toArray, List.getElem_cons_succ, List.getElem_cons_zero, List.setIfInBounds_toArray, List.set_cons_succ, List.set_cons_zero] at ha'
            subst ha'
            refine wpAnyH_next (i := 11) (v := .int .i64 ((j + 1 : Nat) : Int)) rfl (by kernel_rfl) (by kernel_rfl) (by kernel_rfl) (fun _ _ _ h => h) (by kernel_rfl) (fun W1 hW1 => by go_simp; done) hSc1 (fun a' ha' => ?_)
            simp only [Act.put, List.getElem_toArray, List.getElem_cons_succ, List.getElem_cons_zero, List.setIfInBounds_toArray, List.set_cons_succ, List.set_cons_zero] at ha'
            subst ha'
            refine wpAnyH_next (i := 12) (v := .int .i64 (j : Int)) rfl (by kernel_rfl) (by kernel_rfl) (by kernel_rfl) (fun _ _ _ h => h) (by kernel_rfl) (fun W1 hW1 => by first | (go_simp; done) | (go_simp; exact IntWalk.i64_in _ (by omega))) hSc1 (fun a' ha' => ?_)
            simp only [Act.put, List.getElem_toArray, List.getElem_cons_succ, List.getElem_cons_zero, List.setIfInBounds_toArray, List.set_cons_succ, List.set_cons_zero] at ha'
            subst ha'
            refine wpAnyH_next (i := 13) (v := .pointer (some ⟨b, off + j * 34, none⟩)) rfl (by kernel_rfl) (by kernel_rfl) (by kernel_rfl) (fun _ _ _ h => h) (by kernel_rfl) (fun W1 hW1 => by go_simp; done) hSc1 (fun a' ha' => ?_)
            simp only [Act.put, List.getElem_toArray, List.getElem_cons_succ, List.getElem_cons_zero, List.setIfInBounds_toArray, List.set_cons_succ, List.set_cons_zero] at ha'
            subst ha'
            refine wpAnyH_next (i := 14) (v := .pointer (some ⟨b, off + j * 34, none⟩)) rfl (by kernel_rfl) (by kernel_rfl) (by kernel_rfl) (fun _ _ _ h => h) (by kernel_rfl) (fun W1 hW1 => by go_simp; done) hSc1 (fun a' ha' => ?_)
            simp only [Act.put, List.getElem_toArray, List.getElem_cons_succ, List.getElem_cons_zero, List.setIfInBounds_toArray, List.set_cons_succ, List.set_cons_zero] at ha'
            subst ha'
            refine wpAnyH_next (i := 15) (v := Str y.nm) rfl (by kernel_rfl) (by kernel_rfl) (by kernel_rfl) (fun _ _ _ h => h) (by kernel_rfl) (fun W1 hW1 => by have e1 := cellB hW1 cy; go_simp; done) hSc1 (fun a' ha' => ?_)
            simp only [Act.put, List.getElem_toArray, List.getElem_cons_succ, List.getElem_cons_zero, List.setIfInBounds_toArray, List.set_cons_succ, List.set_cons_zero] at ha'
            subst ha'
            refine wpAnyH_next (i := 16) (v := .pointer (some ⟨wr.heap.size, 0, none⟩)) rfl (by kernel_rfl) (by kernel_rfl) (by kernel_rfl) (fun _ _ _ h => h) (by kernel_rfl) (fun W1 hW1 => by go_simp; done) hSc1 (fun a' ha' => ?_)
            simp only [Act.put, List.getElem_toArray, List.getElem_cons_succ, List.getElem_cons_zero, List.setIfInBounds_toArray, List.set_cons_succ, List.set_cons_zero] at ha'
            subst ha'
            refine wpAnyH_next (i := 17) (v := Str x.nm) rfl (by kernel_rfl) (by kernel_rfl) (by kernel_rfl) (fun _ _ _ h => h) (by kernel_rfl) (fun W1 hW1 => by have e1 := cellB hW1 cn; go_simp; done) hSc1 (fun a' ha' => ?_)
            simp only [Act.put, List.getElem_toArray, List.getElem_cons_succ, List.getElem_cons_zero, List.setIfInBounds_toArray, List.set_cons_succ, List.set_cons_zero] at ha'
            subst ha'
            refine wpAnyH_next (i := 18) (v := .bool (!bl)) rfl (by kernel_rfl) (by kernel_rfl) (by kernel_rfl) (fun _ _ _ h => h) (by kernel_rfl) (fun W1 hW1 => by subst hbl; go_simp; done) hSc1 (fun a' ha' => ?_)
            simp only [Act.put, List.getElem_toArray, List.getElem_cons_succ, List.getElem_cons_zero, List.setIfInBounds_toArray, List.set_cons_succ, List.set_cons_zero] at ha'
            subst ha'
            refine wpAnyH_next (i := 19) (v := .bool (!bl)) rfl (by kernel_rfl) (by kernel_rfl) (by kernel_rfl) (fun _ _ _ h => h) (by kernel_rfl) (fun W1 hW1 => by go_simp; done) hSc1 (fun a' ha' => ?_)
            simp only [Act.put, List.getElem_toArray, List.getElem_cons_succ, List.getElem_cons_zero, List.setIfInBounds_toArray, List.set_cons_succ, List.set_cons_zero] at ha'
            subst ha'
            refine wpAnyH_next (i := 20) (v := .bool (!bl)) rfl (by kernel_rfl) (by kernel_rfl) (by kernel_rfl) (fun _ _ _ h => h) (by kernel_rfl) (fun W1 hW1 => by go_simp; done) hSc1 (fun a' ha' => ?_)
            simp only [Act.put, List.getElem_toArray, List.getElem_cons_succ, List.getElem_cons_zero, List.setIfInBounds_toArray, List.set_cons_succ, List.set_cons_zero] at ha'
            subst ha'
            refine wpAnyH_fin (by kernel_rfl) ?_ _
            cases bl with
            | false =>
              have HF := Lib.hid (HN.out _ hlt HK.out)
              go_wp2_with fail
              go_ret
              exact ⟨by rw [HF.out]; rfl, hB3.trans (hSc1.mono hB3.size)⟩
            | true =>
              go_wp2_with fail
              go_roundw
              case rel =>
                refine ⟨j + 2, by omega, by go_num, fun i hi => ?_, hB3.trans (hSc1.mono hB3.size)⟩
                by_cases h : i < j + 1
                · exact HALL.out i h
                · obtain rfl : i = j + 1 := by omega
                  exact HK.out
              case measure => simp [RowKit.intOf]; omega
end Go.Proofs.YtljihmbmjpcfaaaGreat
