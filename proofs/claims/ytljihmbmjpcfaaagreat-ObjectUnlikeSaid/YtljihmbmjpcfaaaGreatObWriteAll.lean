/- Bytes of a string: new memory that reads as they do. An id handed over, in a variable of its own; its bytes. The writer of objects' parts, in general: texts, ids, entries, several of them, and the four bodies. -/
import Derived.Test.YtljihmbmjpcfaaaGreatLebMath
import Derived.Laws.IdiomStrings
import Derived.Lib.SmallJoins
import Derived.Test.YtljihmbmjpcfaaaGreatIdBox
import Derived.Test.YtljihmbmjpcfaaaGreatLebSrc
import Derived.Test.YtljihmbmjpcfaaaGreatObEnc
namespace Go.Proofs.YtljihmbmjpcfaaaGreat
open Go.RowKit

theorem conv_bytes (w : World) (s : List UInt8) : ∃ (c : Nat) (W' : World), (convert 9 22 (Str s)).run Tryz.prog w = .ok (.slice (some ⟨w.heap.size, 0, none⟩) s.length c) W' ∧ Bs W' (.slice (some ⟨w.heap.size, 0, none⟩) s.length c) s ∧ Below w.heap.size w W' := by
  have h := run_bytes_of_string (P := Tryz.prog) w 9 22 5 ⟨s.toArray⟩ Tryz.underlying9 Tryz.underlying22 Tryz.underlying5
  have hsz : (⟨s.toArray⟩ : ByteArray).size = s.length := by simp [ByteArray.size]
  rw [hsz] at h
  refine ⟨_, _, h, .inr ⟨_, _, rfl, grownCap_ge _ _ _ _, fun i y hy => ?_⟩, ((Below.refl _ w).drew).alloc (Nat.le_refl _) _⟩
  have hi := (List.getElem?_eq_some_iff.1 hy).1
  rw [add_plain, Nat.zero_add]
  refine (World.cell?_alloc_mark w.drew _ _ _ i).trans ?_
  unfold bytesRow
  rw [Array.getElem?_append_left (by simpa using hi)]
  simp [hy]
end Go.Proofs.YtljihmbmjpcfaaaGreat
namespace Go.Proofs.YtljihmbmjpcfaaaGreat
open Go.RowKit Go.Great

theorem wpList_box_id {ops : Array Oper} {rest : List Oper} {o : Oper} {a : Act} {w : World} {Q : Exit → Act → World → Prop} (hg : o.guard = none) (p : Operand) (ho : o.op = .box 25 p) {x : List UInt8} (hx : x.length = 32) (hp : a.eval p = IdV x)
    (h : ∀ w', BoxI w' w.heap.size x → Below w.heap.size w w' → wpList Tryz.prog ops Q rest (a.put o.dst (.pointer (some ⟨w.heap.size, 0, none⟩))) w') : wpList Tryz.prog ops Q (o :: rest) a w := by
  refine wpList_runTo hg _ rfl _ _ ?_ (h _ (BoxI.new w hx) ((Below.refl _ w).alloc (Nat.le_refl _) _))
  unfold execOp
  simp [ho, hp, Instr.box, newVar, newRow, Value.cells]
theorem idAt_bs {W : World} {b o : Nat} {x : List UInt8} (h : IdAt W b o x) (hx : x.length = 32) : Bs W (.slice (some ⟨b, o, none⟩) 32 32) x := by
  refine .inr ⟨⟨b, o, none⟩, 32, by rw [hx], by omega, fun i y hy => ?_⟩
  rw [add_plain]
  exact h i _ (by simp [hy])
theorem BoxI.bs {W : World} {g : Nat} {x : List UInt8} (h : BoxI W g x) : Bs W (.slice (some ⟨g, 0, none⟩) 32 32) x := idAt_bs h.at h.1
end Go.Proofs.YtljihmbmjpcfaaaGreat
namespace Go.Proofs.YtljihmbmjpcfaaaGreat
open Go.RowKit Go.Shelf Go.Great
set_option maxRecDepth 100000

theorem WrSinkAt.below {w W : World} {n₀ g : Nat} {v : Value} {xs : List UInt8} (h : WrSinkAt w n₀ g v xs) (hb : Below w.heap.size w W) : WrSinkAt W n₀ g v xs :=
  h.kept (Kept.of_below hb (Nat.le_refl _) (fun _ => False)) (fun h => h) (fun _ _ h => h)
theorem WrSinkWrote.ahead {w w1 W : World} {n₀ g : Nat} {v : Value} {ys : List UInt8} (hb : Below w.heap.size w w1) (h : WrSinkWrote w1 n₀ g v ys W) : WrSinkWrote w n₀ g v ys W :=
  WrSinkWrote.chain (Kept.of_below hb (Nat.le_refl _) _) (.inl rfl) h
theorem WrSinkWrote.behind {w w1 W : World} {n₀ g : Nat} {v : Value} {ys : List UInt8} (h : WrSinkWrote w n₀ g v ys w1) (hb : Below w1.heap.size w1 W) : WrSinkWrote w n₀ g v ys W := by
  obtain ⟨v', h1, h2, h3⟩ := h
  exact ⟨v', h1.below hb, h2.trans (Kept.of_below hb (Nat.le_refl _) (fun _ => False)) (fun _ _ h => h.elim), h3⟩
theorem WrSinkAt.lt {W : World} {n₀ g : Nat} {v : Value} {xs : List UInt8} (h : WrSinkAt W n₀ g v xs) : g < W.heap.size := h.box.lt
theorem WrSinkAt.rowlt {W : World} {n₀ g : Nat} {v : Value} {xs : List UInt8} (h : WrSinkAt W n₀ g v xs) : ∀ j, v.ownBlock = some j → j < W.heap.size := fun j hj => (World.ownsRow.lt h.row j hj).2

set_option maxHeartbeats 1000000 in
theorem wText_any (w : World) (n₀ g : Nat) (v : Value) (xs : List UInt8) (hn₀ : n₀ ≤ w.heap.size) (hat : WrSinkAt w n₀ g v xs) (s : List UInt8) (hlen : xs.length + s.length ≤ 100000000) :
    Calls Tryz.prog 230 #[.pointer (some ⟨g, 0, none⟩), Str s] w (WOut w n₀ g v (xs ++ (lebB s.length ++ s))) := by
  obtain ⟨c, w1, hcv, hs, hB⟩ := conv_bytes w s
  have hat1 := hat.below hB
  have hlt := hat.lt
  have hrl := hat.rowlt
  go_enter Tryz.func230, Tryz.ntmps230
  go_wp2_with fail
  refine (WrSinkBytes_any g w1 v xs n₀ (Nat.le_trans hn₀ hB.size) hat1 _ s hs (fun _ j hj => by
    simp [Value.ownBlock] at hj
    subst hj
    exact ⟨by omega, fun e => by have := hrl _ e; omega⟩) (by omega)).mono ?_
  rintro e w2 ⟨rfl, h2⟩
  have H := Lib.hid (h2.ahead hB)
  clear h2 hat hat1 hs
  go_wp2_with fail
  go_end0
  exact ⟨rfl, H.out⟩
set_option maxHeartbeats 1000000 in
theorem wId_any (w : World) (n₀ g : Nat) (v : Value) (xs : List UInt8) (hn₀ : n₀ ≤ w.heap.size) (hat : WrSinkAt w n₀ g v xs) (id : List UInt8) (hid : id.length = 32) (hlen : xs.length ≤ 100000000) :
    Calls Tryz.prog 231 #[.pointer (some ⟨g, 0, none⟩), IdV id] w (WOut w n₀ g v (xs ++ id)) := by
  have HAT := Lib.hid hat
  clear hat
  go_enter Tryz.func231, Tryz.ntmps231
  go_wp2_with (refine wpList_box_id rfl (.tmp 1) rfl hid rfl ?_; intro w1 b1 hB1)
  refine wp_held (fun _ => True) (by kernel_rfl) ?_
  have hS0 : True := trivial
  refine wpAnyH_next (i := 0) (v := .pointer (some ⟨g, 0, none⟩)) rfl (by kernel_rfl) (by kernel_rfl) (by kernel_rfl) (fun _ _ _ h => h) (by kernel_rfl) (fun W1 hW1 => by go_simp; done) hS0 (fun a' ha' => ?_)
  simp only [Act.put, List.getElem_toArray, List.getElem_cons_zero, List.setIfInBounds_toArray, List.set_cons_succ, List.set_cons_zero] at ha'
  subst ha'
  refine wpAnyH_next (i := 1) (v := .pointer (some ⟨g, 0, none⟩)) rfl (by kernel_rfl) (by kernel_rfl) (by kernel_rfl) (fun _ _ _ h => h) (by kernel_rfl) (fun W1 hW1 => by go_simp; done) hS0 (fun a' ha' => ?_)
  simp only [Act.put, List.getElem_toArray, List.getElem_cons_succ, List.getElem_cons_zero, List.setIfInBounds_toArray, List.set_cons_succ, List.set_cons_zero] at ha'
  subst ha'
  refine wpAnyH_next (i := 2) (v := .pointer (some ⟨g, 0, none⟩)) rfl (by kernel_rfl) (by kernel_rfl) (by kernel_rfl) (fun _ _ _ h => h) (by kernel_rfl) (fun W1 hW1 => by go_simp; done) hS0 (fun a' ha' => ?_)
  simp only [Act.put, List.getElem_toArray, List.getElem_cons_succ, List.getElem_cons_zero, List.setIfInBounds_toArray, List.set_cons_succ, List.set_cons_zero] at ha'
  subst ha'
  refine wpAnyH_next (i := 3) (v := .slice (some ⟨w.heap.size, 0, none⟩) 32 32) rfl (by kernel_rfl) (by kernel_rfl) (by kernel_rfl) (fun _ _ _ h => h) (by kernel_rfl) (fun W1 hW1 => by go_simp; done) hS0 (fun a' ha' => ?_)
  simp only [Act.put, List.getElem_toArray, List.getElem_cons_succ, List.getElem_cons_zero, List.setIfInBounds_toArray, List.set_cons_succ, List.set_cons_zero] at ha'
  subst ha'
  refine wpAnyH_want (i := 4) (by kernel_rfl) rfl (by kernel_rfl) (fun K hK => ?_)
  unfold Oper.wp
  go_simp
  have hD : Below w.heap.size w w1.drew := hB1.drew
  refine (WrSinkRaw_any g w1.drew v xs n₀ (Nat.le_trans hn₀ hD.size) (HAT.out.below hD) _ id (b1.bs.below (Below.refl _ _).drew) (by omega)).mono ?_
  rintro e w2 ⟨rfl, h2⟩
  have H := Lib.hid (h2.ahead hD)
  clear h2
  refine hK _ _ hS0 ?_
  clear hK K
  refine wpAnyH_fin (by kernel_rfl) ?_ _
  go_wp2_with fail
  go_end0
  exact ⟨rfl, H.out⟩
theorem WrSinkWrote.box {α : Type} {E : Elt α} {t : TypeId} {w W : World} {n₀ g : Nat} {v : Value} {ys : List UInt8} (h : WrSinkWrote w n₀ g v ys W) {b : Nat} {x : α} (hb : BoxE E t w b x) (h1 : b ≠ g) (h2 : v.ownBlock ≠ some b) : BoxE E t W b x := by
  obtain ⟨_, _, hk, _⟩ := h
  exact hb.kept hk (by rintro (e | e); exact h1 e; exact h2 e)
set_option maxHeartbeats 1000000 in
theorem wEntry_any (w : World) (n₀ g : Nat) (v : Value) (xs : List UInt8) (hn₀ : n₀ ≤ w.heap.size) (hat : WrSinkAt w n₀ g v xs) (x : En) (hkd : x.kd = 1 ∨ x.kd = 2) (hnm : x.nm.length ≤ 64) (hlen : xs.length ≤ 10000000) :
    Calls Tryz.prog 226 #[.pointer (some ⟨g, 0, none⟩), EnV x] w (WOut w n₀ g v (xs ++ encEnB x)) := by
  obtain ⟨k, hk⟩ : ∃ k : Nat, x.kd = (k : Int) := ⟨x.kd.toNat, by omega⟩
  have hk2 : k < 1000 := by omega
  have HAT := Lib.hid hat
  have HE := Lib.hid (show ((xs ++ (lebB x.nm.length ++ x.nm)) ++ lebB k) ++ x.id = xs ++ encEnB x by
    unfold encEnB
    rw [hk, Int.toNat_natCast]
    simp [List.append_assoc])
  have hl1 := lebB_u64 (n := x.nm.length) (by omega)
  have hl2 := lebB_u64 (n := k) (by omega)
  have HL1 := Lib.hid (show (xs ++ (lebB x.nm.length ++ x.nm)).length ≤ 20000000 by simp; omega)
  have HL2 := Lib.hid (show ((xs ++ (lebB x.nm.length ++ x.nm)) ++ lebB k).length ≤ 30000000 by simp; omega)
  have HN1 := Lib.hid (show w.heap.size ≠ g by have := hat.lt; omega)
  have HN2 := Lib.hid (show v.ownBlock ≠ some w.heap.size by intro e; have := hat.rowlt _ e; omega)
  have h32 := x.h
  clear hat hl1 hl2 hkd
  go_enter Tryz.func226, Tryz.ntmps226
  go_wp2_with (refine wpList_box_e (E := eEn) rfl (.tmp 1) rfl (x := x) rfl ?_; intro w1 b1 hB1; have c0 := EnAt.nm b1.at)
  refine (wText_any w1 n₀ g v xs (Nat.le_trans hn₀ hB1.size) (HAT.out.below hB1) x.nm (by omega)).mono ?_
  rintro e w2 ⟨rfl, h2⟩
  have b2 := h2.box b1 HN1.out HN2.out
  obtain ⟨v2, hat2, hk2', hv2⟩ := h2
  have c1 := EnAt.kd b2.at
  rw [hk] at c1
  simp only [Nat.zero_add] at c1
  have K2 := Lib.hid hk2'
  have V2 := Lib.hid hv2
  have A2 := Lib.hid hat2
  clear hk2' hv2 hat2 c0
  go_wp2_with fail
  refine (wKind_any w2 n₀ g v2 _ (Nat.le_trans hn₀ (Nat.le_trans hB1.size K2.out.size)) A2.out k hk2 (by have := HL1.out; omega)).mono ?_
  rintro e w3 ⟨rfl, h3⟩
  replace h3 := WrSinkWrote.chain K2.out V2.out h3
  have b3 := h3.box b1 HN1.out HN2.out
  obtain ⟨v3, hat3, hk3', hv3⟩ := h3
  have c2 := EnAt.id b3.at
  simp only [Nat.zero_add] at c2
  have K3 := Lib.hid hk3'
  have V3 := Lib.hid hv3
  have A3 := Lib.hid hat3
  clear hk3' hv3 hat3 c1
  go_wp2_with (refine wpList_load_id rfl (.tmp 13) rfl rfl h32 c2 ?_)
  refine (wId_any w3 n₀ g v3 _ (Nat.le_trans hn₀ (Nat.le_trans hB1.size K3.out.size)) A3.out x.id h32 (by have := HL2.out; omega)).mono ?_
  rintro e w4 ⟨rfl, h4⟩
  replace h4 := (WrSinkWrote.chain K3.out V3.out h4).ahead hB1
  rw [HE.out] at h4
  have H := Lib.hid h4
  clear h4 c2
  go_wp2_with fail
  go_end0
  exact ⟨rfl, H.out⟩
theorem wEntry_enters (args : Array Value) (w : World) : (callFunc 226 args).run Tryz.prog w = .ok (.enter 226 args) w := enters_of Tryz.func226 (by kernel_rfl) rfl args w
theorem wId_enters (args : Array Value) (w : World) : (callFunc 231 args).run Tryz.prog w = .ok (.enter 231 args) w := enters_of Tryz.func231 (by kernel_rfl) rfl args w
theorem encEs_length : ∀ (l : List En), (∀ x ∈ l, (x.kd = 1 ∨ x.kd = 2) ∧ x.nm.length ≤ 64) → (l.flatMap encEnB).length ≤ l.length * 98
  | [], _ => by simp
  | x :: l, hx => by
    have h1 := encEs_length l (fun y hy => hx y (List.mem_cons_of_mem _ hy))
    have h2 := hx x (List.mem_cons_self ..)
    have h3 : (lebB x.nm.length).length ≤ 1 := lebB_le 0 _ (by omega)
    have h4 : (lebB x.kd.toNat).length ≤ 1 := lebB_le 0 _ (by omega)
    have h5 := x.h
    have h6 : (encEnB x).length ≤ 98 := by
      unfold encEnB
      simp only [List.length_append]
      omega
    rw [List.flatMap_cons, List.length_append, List.length_cons]
    omega
set_option maxHeartbeats 4000000 in
theorem wSevE_any (w : World) (n₀ g : Nat) (v : Value) (xs : List UInt8) (hn₀ : n₀ ≤ w.heap.size) (hat : WrSinkAt w n₀ g v xs) (s : Value) (es : List En) (hs : Es eEn w s es) (hap : es ≠ [] → ∀ j, s.ownBlock = some j → j ≠ g ∧ v.ownBlock ≠ some j) (hl : es.length ≤ 32) (hes : ∀ x ∈ es, (x.kd = 1 ∨ x.kd = 2) ∧ x.nm.length ≤ 64) (hlen : xs.length ≤ 1000000) :
    Calls Tryz.prog 225 #[.pointer (some ⟨g, 0, none⟩), s, .func (.func 226) #[.pointer (some ⟨g, 0, none⟩)] #[]] w (WOut w n₀ g v (xs ++ (lebB es.length ++ es.flatMap encEnB))) := by
  have hen := fun args w => wEntry_enters args w
  obtain ⟨A, c, rfl, hcap⟩ := hs.form
  generalize hn : es.length = n at *
  have hu : IntKind.u64.wrap (n : Int) = (n : Int) := IntWalk.u64_in _ (by omega)
  have HN := Lib.hid hn
  have HS := Lib.hid hs
  have HA := Lib.hid hap
  have HES := Lib.hid hes
  have HLN := Lib.hid (lebB_u64 (n := n) (by omega))
  clear hs hn hap hes
  go_enter Tryz.func225, Tryz.ntmps225
  go_wp2_with fail
  refine (WrSinkNumber_any g n (by omega) w v xs n₀ hn₀ hat (by omega)).mono ?_
  rintro e w2 ⟨rfl, h2⟩
  have H2 := Lib.hid h2
  clear h2 hat
  go_wp2_with fail
  go_loopw [17] (fun i wr => ∃ k : Nat, k ≤ n ∧ i = .int .i64 (k : Int) ∧ WrSinkWrote w n₀ g v (xs ++ (lebB n ++ (es.take k).flatMap encEnB)) wr) (fun i _ => n - (RowKit.intOf i).toNat)
  case atStart => exact ⟨0, by omega, rfl, by simpa using H2.out⟩
  case round =>
    obtain ⟨k, hk, rfl, hrel⟩ := hrel
    by_cases hlt : k < n
    case neg =>
      have hkn : k = n := by omega
      have HE := Lib.hid (show es.take k = es from List.take_of_length_le (by rw [HN.out]; omega))
      rw [HE.out] at hrel
      have HR := Lib.hid hrel
      have hnk : ¬ (k : Int) < (n : Int) := by omega
      clear hkn hlt hrel
      go_wp2_with fail
      go_end0
      exact ⟨rfl, HR.out⟩
    case pos =>
      obtain ⟨x, hxk⟩ : ∃ x, es[k]? = some x := ⟨_, List.getElem?_eq_getElem (by rw [HN.out]; exact hlt)⟩
      obtain ⟨b, off, rfl, hat⟩ := HS.out.at hxk
      obtain ⟨vr, hatr, hkr, hvr⟩ := hrel
      have hap := HA.out (List.ne_nil_of_mem (List.mem_of_getElem? hxk)) b rfl
      have hat1 : ElAt eEn wr b (off + k * 34) x := hat.kept hkr (by rintro (e | e); exact hap.1 e; exact hap.2 e)
      have hklt : (k : Int) < (n : Int) := by omega
      have HX := Lib.hid (HES.out x (List.mem_of_getElem? hxk))
      have HT := Lib.hid (show (xs ++ (lebB n ++ (es.take k).flatMap encEnB)) ++ encEnB x = xs ++ (lebB n ++ (es.take (k + 1)).flatMap encEnB) by
        rw [List.take_add_one, hxk, List.flatMap_append]
        simp [List.append_assoc])
      have HLEN := Lib.hid (show (xs ++ (lebB n ++ (es.take k).flatMap encEnB)).length ≤ 10000000 by
        have h1 := encEs_length (es.take k) (fun y hy => HES.out y (List.mem_of_mem_take hy))
        have h2 := HLN.out
        have h3 : (es.take k).length ≤ 32 := by rw [List.length_take]; omega
        simp only [List.length_append]
        omega)
      generalize xs ++ (lebB n ++ (es.take k).flatMap encEnB) = pre at *
      have KR := Lib.hid hkr
      have VR := Lib.hid hvr
      have AR := Lib.hid hatr
      clear hxk hat hlt hkr hvr hatr hap H2
      go_wp2_with (first
        | (refine elEn.wpLoad rfl (.tmp 19) rfl rfl hat1 ?_)
        | (refine wpList_alloc_e (E := eEn) (z := zeroEn) zeroEn_run rfl rfl ?_)
        | (refine wpList_store_e (E := eEn) sizeEn rfl (.tmp 7) (.tmp 20) rfl rfl (BoxE.new (E := eEn) _ _) rfl ?_; intro w3 b3 k3; have hBw : Below wr.heap.size wr w3 := (((Kept.refl (· = wr.heap.size) wr).alloc _).same k3).below (fun j _ e => by subst e; exact Nat.le_refl _) (Nat.le_refl _))
        | (refine wpList_load_e (E := eEn) Tryz.underlying70 rfl sizeEn rfl (.tmp 7) rfl rfl b3.at ?_))
      refine (wEntry_any w3 n₀ g vr pre (Nat.le_trans hn₀ (Nat.le_trans KR.out.size hBw.size)) (AR.out.below hBw) x HX.out.1 HX.out.2 HLEN.out).mono ?_
      rintro e w4 ⟨rfl, h4⟩
      replace h4 := WrSinkWrote.chain KR.out VR.out (h4.ahead hBw)
      rw [HT.out] at h4
      have H4 := Lib.hid h4
      clear h4
      go_wp2_with fail
      go_roundw
      case rel => exact ⟨k + 1, by omega, by go_num, H4.out⟩
      case measure => simp [RowKit.intOf]; omega
end Go.Proofs.YtljihmbmjpcfaaaGreat
