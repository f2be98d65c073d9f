/- Kind of any bytes. The writer of objects' parts, in general: texts, ids, entries, several of them, and the four bodies. The writer: several ids, and the bodies of trees, commits and tags. -/
import Derived.Test.YtljihmbmjpcfaaaGreatObParse
import Derived.Test.YtljihmbmjpcfaaaGreatObWrite
import Derived.Test.YtljihmbmjpcfaaaGreatObEnc
import Derived.Test.YtljihmbmjpcfaaaGreatLebSrc
import Derived.Test.YtljihmbmjpcfaaaGreatBoxIdE
namespace Go.Proofs.YtljihmbmjpcfaaaGreat
open Go.RowKit Go.Shelf Go.Great
set_option maxRecDepth 100000

/-- The kind of bytes. -/
def kindP (xs : List UInt8) : Int := match parseP xs with
  | some p => p.kd
  | none => 0
set_option maxHeartbeats 1000000 in
theorem oKind_any (w : World) (sv : Value) (xs : List UInt8) (hs : Bs w sv xs) (hlen : xs.length ≤ 1000000) :
    Calls Tryz.prog 18 #[sv] w fun e W' => e = .returned (.int .i64 (kindP xs)) ∧ Below w.heap.size w W' := by
  have hcall := oParse_any w sv xs hs hlen
  obtain ⟨A, c, rfl, _⟩ := hs.form
  have HC := Lib.hid hcall
  clear hcall hs
  go_enter Tryz.func18, Tryz.ntmps18
  go_wp2_with fail
  refine HC.out.mono ?_
  rintro e w1 ⟨hout, hB1⟩
  rcases hout with ⟨o, p, hpo, rfl, hnew⟩ | ⟨hpo, rfl⟩
  · have HKD := Lib.hid (show kindP xs = o.kd by unfold kindP; rw [hpo, hnew.kd])
    clear hpo hnew
    have bz := BoxE.new (E := eOb) (t := 30) w1 zeroOb
    have hA := (Below.refl w1.heap.size w1).alloc (Nat.le_refl _) (.cells (eOb.enc zeroOb).toArray 30)
    go_wp2_with (first
      | (refine wpList_alloc_e (E := eOb) (z := zeroOb) zeroOb_run rfl rfl ?_)
      | (refine wpList_store_e (E := eOb) sizeO rfl (.tmp 3) (.tmp 8) rfl rfl bz rfl ?_; intro w2 b2 k2; have c2 := b2.obc.kd))
    go_ret
    exact ⟨by rw [HKD.out]; rfl, hB1.trans ((hA.trans (k2.below (B := w1.heap.size) (fun j _ e => by omega) hA.size)).mono hB1.size)⟩
  · have HKD := Lib.hid (show kindP xs = 0 by unfold kindP; rw [hpo])
    clear hpo
    have bz := BoxE.new (E := eOb) (t := 30) w1 zeroOb
    have hA := (Below.refl w1.heap.size w1).alloc (Nat.le_refl _) (.cells (eOb.enc zeroOb).toArray 30)
    go_wp2_with (first
      | (refine wpList_alloc_e (E := eOb) (z := zeroOb) zeroOb_run rfl rfl ?_)
      | (refine wpList_store_e (E := eOb) sizeO rfl (.tmp 3) (.tmp 8) rfl rfl bz rfl ?_; intro w2 b2 k2; have c2 : w2.cell? ⟨w1.heap.size, 0, none⟩ = some (.int .i64 0) := b2.obc.kd))
    go_ret
    exact ⟨by rw [HKD.out]; rfl, hB1.trans ((hA.trans (k2.below (B := w1.heap.size) (fun j _ e => by omega) hA.size)).mono hB1.size)⟩
end Go.Proofs.YtljihmbmjpcfaaaGreat
namespace Go.Proofs.YtljihmbmjpcfaaaGreat
open Go.RowKit Go.Shelf Go.Great
set_option maxRecDepth 100000

theorem WrSinkAt.below {w W : World} {n₀ g : Nat} {v : Value} {xs : List UInt8} (h : WrSinkAt w n₀ g v xs) (hb : Below w.heap.size w W) : WrSinkAt W n₀ g v xs :=
  h.kept (Kept.of_below hb (Nat.le_refl _) (fun _ => False)) (fun h => h) (fun _ _ h => h)
theorem WrSinkWrote.ahead {w w1 W : World} {n₀ g : Nat} {v : Value} {ys : List UInt8} (hb : Below w.heap.size w w1) (h : WrSinkWrote w1 n₀ g v ys W) : WrSinkWrote w n₀ g v ys W :=
  WrSinkWrote.chain (Kept.of_below hb (Nat.le_refl _) _) (.inl rfl) h
theorem WrSinkWrote.behind {w w1 W : World} {n₀ g : Nat} {v : Value} {ys : List UInt8} (h : WrSinkWrote w n₀ g v ys w1) (hb : Below w1.heap.size w1 W) : WrSinkWrote w n₀ g v ys W := by
  obtain ⟨v', h1, h2, h3⟩ := h
  exact ⟨v', h1.below hb, h2.trans (Kept.of_below hb (Nat.le_refl _) (fun _ => False)) (fun _ _ h => h.elim), h3⟩
theorem WrSinkAt.lt {W : World} {n₀ g : Nat} {v : Value} {xs : List UInt8} (h : WrSinkAt W n₀ g v xs) : g < W.heap.size := h.box.lt
theorem WrSinkAt.rowlt {W : World} {n₀ g : Nat} {v : Value} {xs : List UInt8} (h : WrSinkAt W n₀ g v xs) : ∀ j, v.ownBlock = some j → j < W.heap.size := fun j hj => (World.ownsRow.lt h.row j hj).2

set_option maxHeartbeats 1000000 in
theorem wText_any (w : World) (n₀ g : Nat) (v : Value) (xs : List UInt8) (hn₀ : n₀ ≤ w.heap.size) (hat : WrSinkAt w n₀ g v xs) (s : List UInt8) (hlen : xs.length + s.length ≤ 100000000) :
    Calls Tryz.prog 230 #[.pointer (some ⟨g, 0, none⟩), Str s] w (WOut w n₀ g v (xs ++ (lebB s.length ++ s))) := by
  obtain ⟨c, w1, hcv, hs, hB⟩ := conv_bytes w s
  have hat1 := hat.below hB
  have hlt := hat.lt
  have hrl := hat.rowlt
  go_enter Tryz.func230, Tryz.ntmps230
  go_wp2_with fail
  refine (WrSinkBytes_any g w1 v xs n₀ (Nat.le_trans hn₀ hB.size) hat1 _ s hs (fun _ j hj => by
    simp [Value.ownBlock] at hj
    subst hj
    exact ⟨by omega, fun e => by have := hrl _ e; omega⟩) (by omega)).mono ?_
  rintro e w2 ⟨rfl, h2⟩
  have H := Lib.hid (h2.ahead hB)
  clear h2 hat hat1 hs
  go_wp2_with fail
  go_end0
  exact ⟨rfl, H.out⟩
set_option maxHeartbeats 1000000 in
theorem wId_any (w : World) (n₀ g : Nat) (v : Value) (xs : List UInt8) (hn₀ : n₀ ≤ w.heap.size) (hat : WrSinkAt w n₀ g v xs) (id : List UInt8) (hid : id.length = 32) (hlen : xs.length ≤ 100000000) :
    Calls Tryz.prog 231 #[.pointer (some ⟨g, 0, none⟩), IdV id] w (WOut w n₀ g v (xs ++ id)) := by
  have HAT := Lib.hid hat
  clear hat
  go_enter Tryz.func231, Tryz.ntmps231
  go_wp2_with (refine wpList_box_id rfl (.tmp 1) rfl hid rfl ?_; intro w1 b1 hB1)
  refine wp_held (fun _ => True) (by kernel_rfl) ?_
  have hS0 : True := trivial
  refine wpAnyH_next (i := 0) (v := .pointer (some ⟨g, 0, none⟩)) rfl (by kernel_rfl) (by kernel_rfl) (by kernel_rfl) (fun _ _ _ h => h) (by kernel_rfl) (fun W1 hW1 => by go_simp; done) hS0 (fun a' ha' => ?_)
  simp only [Act.put, List.getElem_toArray, List.getElem_cons_zero, List.setIfInBounds_toArray, List.set_cons_succ, List.set_cons_zero] at ha'
  subst ha'
  refine wpAnyH_next (i := 1) (v := .pointer (some ⟨g, 0, none⟩)) rfl (by kernel_rfl) (by kernel_rfl) (by kernel_rfl) (fun _ _ _ h => h) (by kernel_rfl) (fun W1 hW1 => by go_simp; done) hS0 (fun a' ha' => ?_)
  simp only [Act.put, List.getElem_toArray, List.getElem_cons_succ, List.getElem_cons_zero, List.setIfInBounds_toArray, List.set_cons_succ, List.set_cons_zero] at ha'
  subst ha'
  refine wpAnyH_next (i := 2) (v := .pointer (some ⟨g, 0, none⟩)) rfl (by kernel_rfl) (by kernel_rfl) (by kernel_rfl) (fun _ _ _ h => h) (by kernel_rfl) (fun W1 hW1 => by go_simp; done) hS0 (fun a' ha' => ?_)
  simp only [Act.put, List.getElem_toArray, List.getElem_cons_succ, List.getElem_cons_zero, List.setIfInBounds_toArray, List.set_cons_succ, List.set_cons_zero] at ha'
  subst ha'
  refine wpAnyH_next (i := 3) (v := .slice (some ⟨w.heap.size, 0, none⟩) 32 32) rfl (by kernel_rfl) (by kernel_rfl) (by kernel_rfl) (fun _ _ _ h => h) (by kernel_rfl) (fun W1 hW1 => by go_simp; done) hS0 (fun a' ha' => ?_)
  simp only [Act.put, List.getElem_toArray, List.getElem_cons_succ, List.getElem_cons_zero, List.setIfInBounds_toArray, List.set_cons_succ, List.set_cons_zero] at ha'
  subst ha'
  refine wpAnyH_want (i := 4) (by kernel_rfl) rfl (by kernel_rfl) (fun K hK => ?_)
  unfold Oper.wp
  go_simp
  have hD : Below w.heap.size w w1.drew := hB1.drew
  refine (WrSinkRaw_any g w1.drew v xs n₀ (Nat.le_trans hn₀ hD.size) (HAT.out.below hD) _ id (b1.bs.below (Below.refl _ _).drew) (by omega)).mono ?_
  rintro e w2 ⟨rfl, h2⟩
  have H := Lib.hid (h2.ahead hD)
  clear h2
  refine hK _ _ hS0 ?_
  clear hK K
  refine wpAnyH_fin (by kernel_rfl) ?_ _
  go_wp2_with fail
  go_end0
  exact ⟨rfl, H.out⟩
theorem WrSinkWrote.box {α : Type} {E : Elt α} {t : TypeId} {w W : World} {n₀ g : Nat} {v : Value} {ys : List UInt8} (h : WrSinkWrote w n₀ g v ys W) {b : Nat} {x : α} (hb : BoxE E t w b x) (h1 : b ≠ g) (h2 : v.ownBlock ≠ some b) : BoxE E t W b x := by
  obtain ⟨_, _, hk, _⟩ := h
  exact hb.kept hk (by rintro (e | e); exact h1 e; exact h2 e)
set_option maxHeartbeats 1000000 in
theorem wEntry_any (w : World) (n₀ g : Nat) (v : Value) (xs : List UInt8) (hn₀ : n₀ ≤ w.heap.size) (hat : WrSinkAt w n₀ g v xs) (x : En) (hkd : x.kd = 1 ∨ x.kd = 2) (hnm : x.nm.length ≤ 64) (hlen : xs.length ≤ 10000000) :
    Calls Tryz.prog 226 #[.pointer (some ⟨g, 0, none⟩), EnV x] w (WOut w n₀ g v (xs ++ encEnB x)) := by
  obtain ⟨k, hk⟩ : ∃ k : Nat, x.kd = (k : Int) := ⟨x.kd.toNat, by omega⟩
  have hk2 : k < 1000 := by omega
  have HAT := Lib.hid hat
  have HE := Lib.hid (show ((xs ++ (lebB x.nm.length ++ x.nm)) ++ lebB k) ++ x.id = xs ++ encEnB x by
    unfold encEnB
    rw [hk, Int.toNat_natCast]
    simp [List.append_assoc])
  have hl1 := lebB_u64 (n := x.nm.length) (by omega)
  have hl2 := lebB_u64 (n := k) (by omega)
  have HL1 := Lib.hid (show (xs ++ (lebB x.nm.length ++ x.nm)).length ≤ 20000000 by simp; omega)
  have HL2 := Lib.hid (show ((xs ++ (lebB x.nm.length ++ x.nm)) ++ lebB k).length ≤ 30000000 by simp; omega)
  have HN1 := Lib.hid (show w.heap.size ≠ g by have := hat.lt; omega)
  have HN2 := Lib.hid (show v.ownBlock ≠ some w.heap.size by intro e; have := hat.rowlt _ e; omega)
  have h32 := x.h
  clear hat hl1 hl2 hkd
  go_enter Tryz.func226, Tryz.ntmps226
  go_wp2_with (refine wpList_box_e (E := eEn) rfl (.tmp 1) rfl (x := x) rfl ?_; intro w1 b1 hB1; have c0 := EnAt.nm b1.at)
  refine (wText_any w1 n₀ g v xs (Nat.le_trans hn₀ hB1.size) (HAT.out.below hB1) x.nm (by omega)).mono ?_
  rintro e w2 ⟨rfl, h2⟩
  have b2 := h2.box b1 HN1.out HN2.out
  obtain ⟨v2, hat2, hk2', hv2⟩ := h2
  have c1 := EnAt.kd b2.at
  rw [hk] at c1
  simp only [Nat.zero_add] at c1
  have K2 := Lib.hid hk2'
  have V2 := Lib.hid hv2
  have A2 := Lib.hid hat2
  clear hk2' hv2 hat2 c0
  go_wp2_with fail
  refine (wKind_any w2 n₀ g v2 _ (Nat.le_trans hn₀ (Nat.le_trans hB1.size K2.out.size)) A2.out k hk2 (by have := HL1.out; omega)).mono ?_
  rintro e w3 ⟨rfl, h3⟩
  replace h3 := WrSinkWrote.chain K2.out V2.out h3
  have b3 := h3.box b1 HN1.out HN2.out
  obtain ⟨v3, hat3, hk3', hv3⟩ := h3
  have c2 := EnAt.id b3.at
  simp only [Nat.zero_add] at c2
  have K3 := Lib.hid hk3'
  have V3 := Lib.hid hv3
  have A3 := Lib.hid hat3
  clear hk3' hv3 hat3 c1
  go_wp2_with (refine wpList_load_id rfl (.tmp 13) rfl rfl h32 c2 ?_)
  refine (wId_any w3 n₀ g v3 _ (Nat.le_trans hn₀ (Nat.le_trans hB1.size K3.out.size)) A3.out x.id h32 (by have := HL2.out; omega)).mono ?_
  rintro e w4 ⟨rfl, h4⟩
  replace h4 := (WrSinkWrote.chain K3.out V3.out h4).ahead hB1
  rw [HE.out] at h4
  have H := Lib.hid h4
  clear h4 c2
  go_wp2_with fail
  go_end0
  exact ⟨rfl, H.out⟩
theorem wEntry_enters (args : Array Value) (w : World) : (callFunc 226 args).run Tryz.prog w = .ok (.enter 226 args) w := enters_of Tryz.func226 (by kernel_rfl) rfl args w
theorem wId_enters (args : Array Value) (w : World) : (callFunc 231 args).run Tryz.prog w = .ok (.enter 231 args) w := enters_of Tryz.func231 (by kernel_rfl) rfl args w
theorem encEs_length : ∀ (l : List En), (∀ x ∈ l, (x.kd = 1 ∨ x.kd = 2) ∧ x.nm.length ≤ 64) → (l.flatMap encEnB).length ≤ l.length * 98
  | [], _ => by simp
  | x :: l, hx => by
    have h1 := encEs_length l (fun y hy => hx y (List.mem_cons_of_mem _ hy))
    have h2 := hx x (List.mem_cons_self ..)
    have h3 : (lebB x.nm.length).length ≤ 1 := lebB_le 0 _ (by omega)
    have h4 : (lebB x.kd.toNat).length ≤ 1 := lebB_le 0 _ (by omega)
    have h5 := x.h
    have h6 : (encEnB x).length ≤ 98 := by
      unfold encEnB
      simp only [List.length_append]
      omega
    rw [List.flatMap_cons, List.length_append, List.length_cons]
    omega
set_option maxHeartbeats 4000000 in
theorem wSevE_any (w : World) (n₀ g : Nat) (v : Value) (xs : List UInt8) (hn₀ : n₀ ≤ w.heap.size) (hat : WrSinkAt w n₀ g v xs) (s : Value) (es : List En) (hs : Es eEn w s es) (hap : es ≠ [] → ∀ j, s.ownBlock = some j → j ≠ g ∧ v.ownBlock ≠ some j) (hl : es.length ≤ 32) (hes : ∀ x ∈ es, (x.kd = 1 ∨ x.kd = 2) ∧ x.nm.length ≤ 64) (hlen : xs.length ≤ 1000000) :
    Calls Tryz.prog 225 #[.pointer (some ⟨g, 0, none⟩), s, .func (.func 226) #[.pointer (some ⟨g, 0, none⟩)] #[]] w (WOut w n₀ g v (xs ++ (lebB es.length ++ es.flatMap encEnB))) := by
  have hen := fun args w => wEntry_enters args w
  obtain ⟨A, c, rfl, hcap⟩ := hs.form
  generalize hn : es.length = n at *
  have hu : IntKind.u64.wrap (n : Int) = (n : Int) := IntWalk.u64_in _ (by omega)
  have HN := Lib.hid hn
  have HS := Lib.hid hs
  have HA := Lib.hid hap
  have HES := Lib.hid hes
  have HLN := Lib.hid (lebB_u64 (n := n) (by omega))
  clear hs hn hap hes
  go_enter Tryz.func225, Tryz.ntmps225
  go_wp2_with fail
  refine (WrSinkNumber_any g n (by omega) w v xs n₀ hn₀ hat (by omega)).mono ?_
  rintro e w2 ⟨rfl, h2⟩
  have H2 := Lib.hid h2
  clear h2 hat
  go_wp2_with fail
  go_loopw [17] (fun i wr => ∃ k : Nat, k ≤ n ∧ i = .int .i64 (k : Int) ∧ WrSinkWrote w n₀ g v (xs ++ (lebB n ++ (es.take k).flatMap encEnB)) wr) (fun i _ => n - (RowKit.intOf i).toNat)
  case atStart => exact ⟨0, by omega, rfl, by simpa using H2.out⟩
  case round =>
    obtain ⟨k, hk, rfl, hrel⟩ := hrel
    by_cases hlt : k < n
    case neg =>
      have hkn : k = n := by omega
      have HE := Lib.hid (show es.take k = es from List.take_of_length_le (by rw [HN.out]; omega))
      rw [HE.out] at hrel
      have HR := Lib.hid hrel
      have hnk : ¬ (k : Int) < (n : Int) := by omega
      clear hkn hlt hrel
      go_wp2_with fail
      go_end0
      exact ⟨rfl, HR.out⟩
    case pos =>
      obtain ⟨x, hxk⟩ : ∃ x, es[k]? = some x := ⟨_, List.getElem?_eq_getElem (by rw [HN.out]; exact hlt)⟩
      obtain ⟨b, off, rfl, hat⟩ := HS.out.at hxk
      obtain ⟨vr, hatr, hkr, hvr⟩ := hrel
      have hap := HA.out (List.ne_nil_of_mem (List.mem_of_getElem? hxk)) b rfl
      have hat1 : ElAt eEn wr b (off + k * 34) x := hat.kept hkr (by rintro (e | e); exact hap.1 e; exact hap.2 e)
      have hklt : (k : Int) < (n : Int) := by omega
      have HX := Lib.hid (HES.out x (List.mem_of_getElem? hxk))
      have HT := Lib.hid (show (xs ++ (lebB n ++ (es.take k).flatMap encEnB)) ++ encEnB x = xs ++ (lebB n ++ (es.take (k + 1)).flatMap encEnB) by
        rw [List.take_add_one, hxk, List.flatMap_append]
        simp [List.append_assoc])
      have HLEN := Lib.hid (show (xs ++ (lebB n ++ (es.take k).flatMap encEnB)).length ≤ 10000000 by
        have h1 := encEs_length (es.take k) (fun y hy => HES.out y (List.mem_of_mem_take hy))
        have h2 := HLN.out
        have h3 : (es.take k).length ≤ 32 := by rw [List.length_take]; omega
        simp only [List.length_append]
        omega)
      generalize xs ++ (lebB n ++ (es.take k).flatMap encEnB) = pre at *
      have KR := Lib.hid hkr
      have VR := Lib.hid hvr
      have AR := Lib.hid hatr
      clear hxk hat hlt hkr hvr hatr hap H2
      go_wp2_with (first
        | (refine elEn.wpLoad rfl (.tmp 19) rfl rfl hat1 ?_)
        | (refine wpList_alloc_e (E := eEn) (z := zeroEn) zeroEn_run rfl rfl ?_)
        | (refine wpList_store_e (E := eEn) sizeEn rfl (.tmp 7) (.tmp 20) rfl rfl (BoxE.new (E := eEn) _ _) rfl ?_; intro w3 b3 k3; have hBw : Below wr.heap.size wr w3 := (((Kept.refl (· = wr.heap.size) wr).alloc _).same k3).below (fun j _ e => by subst e; exact Nat.le_refl _) (Nat.le_refl _))
        | (refine wpList_load_e (E := eEn) Tryz.underlying70 rfl sizeEn rfl (.tmp 7) rfl rfl b3.at ?_))
      refine (wEntry_any w3 n₀ g vr pre (Nat.le_trans hn₀ (Nat.le_trans KR.out.size hBw.size)) (AR.out.below hBw) x HX.out.1 HX.out.2 HLEN.out).mono ?_
      rintro e w4 ⟨rfl, h4⟩
      replace h4 := WrSinkWrote.chain KR.out VR.out (h4.ahead hBw)
      rw [HT.out] at h4
      have H4 := Lib.hid h4
      clear h4
      go_wp2_with fail
      go_roundw
      case rel => exact ⟨k + 1, by omega, by go_num, H4.out⟩
      case measure => simp [RowKit.intOf]; omega
end Go.Proofs.YtljihmbmjpcfaaaGreat
namespace Go.Proofs.YtljihmbmjpcfaaaGreat
open Go.RowKit Go.Shelf Go.Great
set_option maxRecDepth 100000

theorem flat_length : ∀ (l : List (List UInt8)), (∀ x ∈ l, x.length = 32) → l.flatten.length = l.length * 32
  | [], _ => by simp
  | x :: l, hx => by
    have h1 := flat_length l (fun y hy => hx y (List.mem_cons_of_mem _ hy))
    have h2 := hx x (List.mem_cons_self ..)
    rw [List.flatten_cons, List.length_append, List.length_cons]
    omega
theorem idAt_block {W : World} {b o : Nat} {x : List UInt8} (h : IdAt W b o x) (h32 : x.length = 32) : b < W.heap.size := by
  have : x[0]? = some x[0] := List.getElem?_eq_getElem (by omega)
  exact World.block_lt_of_cell? _ _ (IdAt.cell h this)
theorem idKeptT {T : Nat → Prop} {w w' : World} {b o : Nat} {xs : List UInt8} (h : IdAt w b o xs) (h32 : xs.length = 32) (hk : Kept T w w') (hb : ¬ T b) : IdAt w' b o xs :=
  fun j v hv => (hk.cell (p := ⟨b, o + j, none⟩) (idAt_block h h32) hb).trans (h j v hv)
theorem Is.lt1 {w : World} {v : Value} {l : List (List UInt8)} (h : Is w v l) (hl : l ≠ []) : ∀ j, v.ownBlock = some j → j < w.heap.size := by
  obtain ⟨h1, A, c, rfl, hc, h2⟩ := h
  intro j hj
  match l, hl with
  | x :: l, _ =>
    obtain ⟨b, off, rfl, h3⟩ := h2 0 x rfl
    have : b = j := by simpa [Value.ownBlock] using hj
    subst this
    exact idAt_block h3 (h1 x (List.mem_cons_self ..))
theorem Is.kept1 {T : Nat → Prop} {w w' : World} {v : Value} {l : List (List UInt8)} (h : Is w v l) (hk : Kept T w w') (hn : l ≠ [] → ∀ j, v.ownBlock = some j → ¬ T j) : Is w' v l := by
  obtain ⟨h1, A, c, rfl, hc, h2⟩ := h
  refine ⟨h1, A, c, rfl, hc, fun i x hx => ?_⟩
  obtain ⟨b, off, rfl, h3⟩ := h2 i x hx
  have hm := List.mem_of_getElem? hx
  exact ⟨b, off, rfl, idKeptT h3 (h1 x hm) hk (hn (List.ne_nil_of_mem hm) b rfl)⟩
theorem Es.lt1 {w : World} {v : Value} {l : List En} (h : Es eEn w v l) (hl : l ≠ []) : ∀ j, v.ownBlock = some j → j < w.heap.size := by
  obtain ⟨A, c, rfl, hc, h2⟩ := h
  intro j hj
  match l, hl with
  | x :: l, _ =>
    obtain ⟨b, off, rfl, h3⟩ := h2 0 x rfl
    have : b = j := by simpa [Value.ownBlock] using hj
    subst this
    exact World.block_lt_of_cell? _ _ (EnAt.nm h3)
theorem Es.kept1 {T : Nat → Prop} {w w' : World} {v : Value} {l : List En} (h : Es eEn w v l) (hk : Kept T w w') (hn : l ≠ [] → ∀ j, v.ownBlock = some j → ¬ T j) : Es eEn w' v l := by
  obtain ⟨A, c, rfl, hc, h2⟩ := h
  refine ⟨A, c, rfl, hc, fun i x hx => ?_⟩
  obtain ⟨b, off, rfl, h3⟩ := h2 i x hx
  exact ⟨b, off, rfl, ElAt.kept h3 hk (hn (List.ne_nil_of_mem (List.mem_of_getElem? hx)) b rfl)⟩
set_option maxHeartbeats 4000000 in
theorem wSevI_any (w : World) (n₀ g : Nat) (v : Value) (xs : List UInt8) (hn₀ : n₀ ≤ w.heap.size) (hat : WrSinkAt w n₀ g v xs) (s : Value) (ps : List (List UInt8)) (hs : Is w s ps) (hap : ps ≠ [] → ∀ j, s.ownBlock = some j → j ≠ g ∧ v.ownBlock ≠ some j) (hl : ps.length ≤ 1000) (hlen : xs.length ≤ 1000000) :
    Calls Tryz.prog 253 #[.pointer (some ⟨g, 0, none⟩), s, .func (.func 231) #[.pointer (some ⟨g, 0, none⟩)] #[]] w (WOut w n₀ g v (xs ++ (lebB ps.length ++ ps.flatten))) := by
  have hen := fun args w => wId_enters args w
  obtain ⟨A, c, rfl, hcap⟩ := hs.form
  generalize hn : ps.length = n at *
  have hu : IntKind.u64.wrap (n : Int) = (n : Int) := IntWalk.u64_in _ (by omega)
  have HN := Lib.hid hn
  have HS := Lib.hid hs
  have HA := Lib.hid hap
  have HLN := Lib.hid (lebB_u64 (n := n) (by omega))
  clear hs hn hap
  go_enter Tryz.func253, Tryz.ntmps253
  go_wp2_with fail
  refine (WrSinkNumber_any g n (by omega) w v xs n₀ hn₀ hat (by omega)).mono ?_
  rintro e w2 ⟨rfl, h2⟩
  have H2 := Lib.hid h2
  clear h2 hat
  go_wp2_with fail
  go_loopw [17] (fun i wr => ∃ k : Nat, k ≤ n ∧ i = .int .i64 (k : Int) ∧ WrSinkWrote w n₀ g v (xs ++ (lebB n ++ (ps.take k).flatten)) wr) (fun i _ => n - (RowKit.intOf i).toNat)
  case atStart => exact ⟨0, by omega, rfl, by simpa using H2.out⟩
  case round =>
    obtain ⟨k, hk, rfl, hrel⟩ := hrel
    by_cases hlt : k < n
    case neg =>
      have hkn : k = n := by omega
      have HE := Lib.hid (show ps.take k = ps from List.take_of_length_le (by rw [HN.out]; omega))
      rw [HE.out] at hrel
      have HR := Lib.hid hrel
      have hnk : ¬ (k : Int) < (n : Int) := by omega
      clear hkn hlt hrel
      go_wp2_with fail
      go_end0
      exact ⟨rfl, HR.out⟩
    case pos =>
      obtain ⟨x, hxk⟩ : ∃ x, ps[k]? = some x := ⟨_, List.getElem?_eq_getElem (by rw [HN.out]; exact hlt)⟩
      obtain ⟨hx32, b, off, rfl, hat⟩ := HS.out.at hxk
      obtain ⟨vr, hatr, hkr, hvr⟩ := hrel
      have hap := HA.out (List.ne_nil_of_mem (List.mem_of_getElem? hxk)) b rfl
      have hat1 : IdAt wr b (off + k * 32) x := idKeptT hat hx32 hkr (by rintro (e | e); exact hap.1 e; exact hap.2 e)
      have hklt : (k : Int) < (n : Int) := by omega
      have HT := Lib.hid (show (xs ++ (lebB n ++ (ps.take k).flatten)) ++ x = xs ++ (lebB n ++ (ps.take (k + 1)).flatten) by
        rw [List.take_add_one, hxk, List.flatten_append]
        simp [List.append_assoc])
      have HLEN := Lib.hid (show (xs ++ (lebB n ++ (ps.take k).flatten)).length ≤ 10000000 by
        have h1 := flat_length (ps.take k) (fun y hy => HS.out.1 y (List.mem_of_mem_take hy))
        have h2 := HLN.out
        have h3 : (ps.take k).length ≤ 1000 := by rw [List.length_take]; omega
        simp only [List.length_append]
        omega)
      generalize xs ++ (lebB n ++ (ps.take k).flatten) = pre at *
      have KR := Lib.hid hkr
      have VR := Lib.hid hvr
      have AR := Lib.hid hatr
      clear hxk hat hlt hkr hvr hatr hap H2
      go_wp2_with (first
        | (refine wpList_load_id rfl (.tmp 19) rfl rfl hx32 hat1 ?_)
        | (refine wpList_alloc_id rfl rfl ?_)
        | (refine wpList_store_id rfl (.tmp 7) (.tmp 20) rfl rfl (BoxI.new _ zeroID_length) hx32 rfl ?_; intro w3 b3 k3; have hBw : Below wr.heap.size wr w3 := (((Kept.refl (· = wr.heap.size) wr).alloc _).same k3).below (fun j _ e => by subst e; exact Nat.le_refl _) (Nat.le_refl _))
        | (refine wpList_load_id rfl (.tmp 7) rfl rfl hx32 b3.at ?_))
      refine (wId_any w3 n₀ g vr pre (Nat.le_trans hn₀ (Nat.le_trans KR.out.size hBw.size)) (AR.out.below hBw) x hx32 (by have := HLEN.out; omega)).mono ?_
      rintro e w4 ⟨rfl, h4⟩
      replace h4 := WrSinkWrote.chain KR.out VR.out (h4.ahead hBw)
      rw [HT.out] at h4
      have H4 := Lib.hid h4
      clear h4
      go_wp2_with fail
      go_roundw
      case rel => exact ⟨k + 1, by omega, by go_num, H4.out⟩
      case measure => simp [RowKit.intOf]; omega
set_option maxHeartbeats 1000000 in
theorem treeWrite_any (w : World) (n₀ g gb : Nat) (v : Value) (xs : List UInt8) (hn₀ : n₀ ≤ w.heap.size) (hat : WrSinkAt w n₀ g v xs) (s : Sl) (es : List En) (hb : BoxTree w gb s) (hs : Es eEn w s.v es) (hap : es ≠ [] → ∀ j, s.v.ownBlock = some j → j ≠ g ∧ v.ownBlock ≠ some j) (hl : es.length ≤ 32) (hes : ∀ x ∈ es, (x.kd = 1 ∨ x.kd = 2) ∧ x.nm.length ≤ 64) (hlen : xs.length ≤ 1000000) :
    Calls Tryz.prog 221 #[.pointer (some ⟨gb, 0, none⟩), .pointer (some ⟨g, 0, none⟩)] w (WOut w n₀ g v (xs ++ (lebB es.length ++ es.flatMap encEnB))) := by
  have hc := hb.cell
  have hmf : ∀ (fn : Fn) (first cap : Array Value) (w : World), (Instr.makeFunc fn first cap).run Tryz.prog w = .ok (.func fn first cap) w := fun _ _ _ _ => rfl
  have hcall := wSevE_any w n₀ g v xs hn₀ hat s.v es hs hap hl hes hlen
  have HC := Lib.hid hcall
  clear hcall hs hap hes hat hb
  go_enter Tryz.func221, Tryz.ntmps221
  go_wp2_with fail
  refine HC.out.mono ?_
  rintro e w2 ⟨rfl, h2⟩
  have H := Lib.hid h2
  clear h2
  go_wp2_with fail
  go_end0
  exact ⟨rfl, H.out⟩
set_option maxHeartbeats 4000000 in
theorem commitWrite_any (w : World) (n₀ g gb : Nat) (v : Value) (xs : List UInt8) (hn₀ : n₀ ≤ w.heap.size) (hat : WrSinkAt w n₀ g v xs) (x : Co) (ps : List (List UInt8)) (hb : BoxCo w gb x) (hs : Is w x.pv.v ps) (hgb : gb ≠ g ∧ v.ownBlock ≠ some gb) (hap : ps ≠ [] → ∀ j, x.pv.v.ownBlock = some j → j ≠ g ∧ v.ownBlock ≠ some j) (hl : ps.length ≤ 1000) (hml : x.msg.length ≤ 10000) (hlen : xs.length ≤ 1000) :
    Calls Tryz.prog 250 #[.pointer (some ⟨gb, 0, none⟩), .pointer (some ⟨g, 0, none⟩)] w (WOut w n₀ g v (xs ++ (x.tree ++ ((lebB ps.length ++ ps.flatten) ++ (lebB x.msg.length ++ x.msg))))) := by
  obtain ⟨tree, ⟨A, n, c⟩, msg, h32⟩ := x
  have hfl := flat_length ps hs.1
  have hl1 := lebB_u64 (n := ps.length) (by omega)
  obtain ⟨A', c', he, hcap⟩ := hs.form
  injection he with e1 e2 e3
  subst e1 e2 e3
  have c0 : IdAt w gb 0 tree := CoAt.tree hb.at
  change Is w (.slice A ps.length c) ps at hs
  replace hap : ps ≠ [] → ∀ j, (Value.slice A ps.length c).ownBlock = some j → j ≠ g ∧ v.ownBlock ≠ some j := hap
  show Calls Tryz.prog 250 #[.pointer (some ⟨gb, 0, none⟩), .pointer (some ⟨g, 0, none⟩)] w (WOut w n₀ g v (xs ++ (tree ++ ((lebB ps.length ++ ps.flatten) ++ (lebB msg.length ++ msg)))))
  replace hml : msg.length ≤ 10000 := hml
  have hmf : ∀ (fn : Fn) (first cap : Array Value) (w : World), (Instr.makeFunc fn first cap).run Tryz.prog w = .ok (.func fn first cap) w := fun _ _ _ _ => rfl
  have HAT := Lib.hid hat
  have HS := Lib.hid hs
  have HP := Lib.hid hap
  have HG := Lib.hid hgb
  have HB := Lib.hid hb
  have HE := Lib.hid (show ((xs ++ tree) ++ (lebB ps.length ++ ps.flatten)) ++ (lebB msg.length ++ msg) = xs ++ (tree ++ ((lebB ps.length ++ ps.flatten) ++ (lebB msg.length ++ msg))) by simp [List.append_assoc])
  have HL1 := Lib.hid (show (xs ++ tree).length ≤ 1032 by simp; omega)
  have HL2 := Lib.hid (show ((xs ++ tree) ++ (lebB ps.length ++ ps.flatten)).length ≤ 100000 by simp only [List.length_append]; omega)
  have HPL := Lib.hid hl
  have HML := Lib.hid hml
  generalize hn : ps.length = n at *
  have HN := Lib.hid hn
  clear hat hs hap hgb hb hfl hl1 hl hml hn hlen hcap
  go_enter Tryz.func250, Tryz.ntmps250
  go_wp2_with (refine wpList_load_id rfl (.tmp 7) rfl rfl h32 c0 ?_)
  refine (wId_any w n₀ g v xs hn₀ HAT.out tree h32 (by have := HL1.out; simp at this; omega)).mono ?_
  rintro e w2 ⟨rfl, h2⟩
  have b2 := h2.box HB.out HG.out.1 HG.out.2
  obtain ⟨v2, hat2, hk2, hv2⟩ := h2
  have hs2 : Is w2 (.slice A n c) ps := Is.kept1 HS.out hk2 (fun hne j hj => by
    have h := HP.out hne j hj
    rintro (e | e)
    · exact h.1 e
    · exact h.2 e)
  have c1 : w2.cell? ⟨gb, 32, none⟩ = some (.slice A n c) := by have := CoAt.pv b2.at; rwa [Nat.zero_add] at this
  have hsI := wSevI_any w2 n₀ g v2 (xs ++ tree) (Nat.le_trans hn₀ hk2.size) hat2 _ ps hs2 (fun hne j hj => by
    have hb0 := HS.out.lt1 hne j hj
    have h := HP.out hne j hj
    refine ⟨h.1, fun e => ?_⟩
    rcases hv2 with q | q
    · rw [q] at e; exact h.2 e
    · have := q j e; omega) (by rw [HN.out]; exact HPL.out) (by have := HL1.out; omega)
  rw [HN.out] at hsI
  have SI := Lib.hid hsI
  have K2 := Lib.hid hk2
  have V2 := Lib.hid hv2
  clear hsI hs2 hk2 hv2 hat2 c0
  go_wp2_with fail
  refine SI.out.mono ?_
  rintro e w3 ⟨rfl, h3⟩
  replace h3 := WrSinkWrote.chain K2.out V2.out h3
  have b3 := h3.box HB.out HG.out.1 HG.out.2
  obtain ⟨v3, hat3, hk3, hv3⟩ := h3
  have c2 : w3.cell? ⟨gb, 33, none⟩ = some (Str msg) := by have := CoAt.msg b3.at; rwa [Nat.zero_add] at this
  have A3 := Lib.hid hat3
  have K3 := Lib.hid hk3
  have V3 := Lib.hid hv3
  clear hk3 hv3 hat3 c1
  go_wp2_with fail
  refine (wText_any w3 n₀ g v3 _ (Nat.le_trans hn₀ K3.out.size) A3.out msg (by have := HL2.out; have := HML.out; omega)).mono ?_
  rintro e w4 ⟨rfl, h4⟩
  replace h4 := WrSinkWrote.chain K3.out V3.out h4
  rw [HE.out] at h4
  have H := Lib.hid h4
  clear h4 c2
  go_wp2_with fail
  go_end0
  exact ⟨rfl, H.out⟩
set_option maxHeartbeats 4000000 in
theorem tagWrite_any (w : World) (n₀ g gb : Nat) (v : Value) (xs : List UInt8) (hn₀ : n₀ ≤ w.heap.size) (hat : WrSinkAt w n₀ g v xs) (x : Tg) (hb : BoxTg w gb x) (hgb : gb ≠ g ∧ v.ownBlock ≠ some gb) (hkd : 1 ≤ x.tg.kd ∧ x.tg.kd ≤ 4) (hml : x.msg.length ≤ 10000) (hlen : xs.length ≤ 1000) :
    Calls Tryz.prog 258 #[.pointer (some ⟨gb, 0, none⟩), .pointer (some ⟨g, 0, none⟩)] w (WOut w n₀ g v (xs ++ (lebB x.tg.kd.toNat ++ (x.tg.id ++ (lebB x.msg.length ++ x.msg))))) := by
  obtain ⟨⟨kd, id, h32⟩, msg⟩ := x
  obtain ⟨k, rfl⟩ : ∃ k : Nat, kd = (k : Int) := ⟨kd.toNat, by dsimp only at hkd; omega⟩
  have hk4 : k ≤ 4 := by dsimp only at hkd; omega
  replace hml : msg.length ≤ 10000 := hml
  show Calls Tryz.prog 258 #[.pointer (some ⟨gb, 0, none⟩), .pointer (some ⟨g, 0, none⟩)] w (WOut w n₀ g v (xs ++ (lebB (k : Int).toNat ++ (id ++ (lebB msg.length ++ msg)))))
  rw [Int.toNat_natCast]
  have c0 : w.cell? ⟨gb, 0, none⟩ = some (.int .i64 (k : Int)) := LkAt.kd (TgAt.tg hb.at)
  have hl1 := lebB_u64 (n := k) (by omega)
  have HAT := Lib.hid hat
  have HG := Lib.hid hgb
  have HB := Lib.hid hb
  have HE := Lib.hid (show ((xs ++ lebB k) ++ id) ++ (lebB msg.length ++ msg) = xs ++ (lebB k ++ (id ++ (lebB msg.length ++ msg))) by simp [List.append_assoc])
  have HL0 := Lib.hid hlen
  have HL1 := Lib.hid (show (xs ++ lebB k).length ≤ 1010 by simp; omega)
  have HL2 := Lib.hid (show ((xs ++ lebB k) ++ id).length ≤ 100000 by simp only [List.length_append]; omega)
  have HML := Lib.hid hml
  clear hat hgb hb hl1 hml hlen hkd
  go_enter Tryz.func258, Tryz.ntmps258
  go_wp2_with fail
  refine (wKind_any w n₀ g v xs hn₀ HAT.out k (by omega) (by have := HL0.out; omega)).mono ?_
  rintro e w2 ⟨rfl, h2⟩
  have b2 := h2.box HB.out HG.out.1 HG.out.2
  obtain ⟨v2, hat2, hk2, hv2⟩ := h2
  have c1 : IdAt w2 gb 1 id := LkAt.id (TgAt.tg b2.at)
  have A2 := Lib.hid hat2
  have K2 := Lib.hid hk2
  have V2 := Lib.hid hv2
  clear hk2 hv2 hat2 c0
  go_wp2_with (refine wpList_load_id rfl (.tmp 15) rfl rfl h32 c1 ?_)
  refine (wId_any w2 n₀ g v2 _ (Nat.le_trans hn₀ K2.out.size) A2.out id h32 (by have := HL1.out; omega)).mono ?_
  rintro e w3 ⟨rfl, h3⟩
  replace h3 := WrSinkWrote.chain K2.out V2.out h3
  have b3 := h3.box HB.out HG.out.1 HG.out.2
  obtain ⟨v3, hat3, hk3, hv3⟩ := h3
  have c2 : w3.cell? ⟨gb, 33, none⟩ = some (Str msg) := by have := TgAt.msg b3.at; rwa [Nat.zero_add] at this
  have A3 := Lib.hid hat3
  have K3 := Lib.hid hk3
  have V3 := Lib.hid hv3
  clear hk3 hv3 hat3 c1
  go_wp2_with fail
  refine (wText_any w3 n₀ g v3 _ (Nat.le_trans hn₀ K3.out.size) A3.out msg (by have := HL2.out; have := HML.out; omega)).mono ?_
  rintro e w4 ⟨rfl, h4⟩
  replace h4 := WrSinkWrote.chain K3.out V3.out h4
  rw [HE.out] at h4
  have H := Lib.hid h4
  clear h4 c2
  go_wp2_with fail
  go_end0
  exact ⟨rfl, H.out⟩
end Go.Proofs.YtljihmbmjpcfaaaGreat
