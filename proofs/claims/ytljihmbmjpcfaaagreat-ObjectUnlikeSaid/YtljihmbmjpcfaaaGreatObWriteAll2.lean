/- The writer: several ids, and the bodies of trees, commits and tags. -/
import Derived.Test.YtljihmbmjpcfaaaGreatObWriteAll
namespace Go.Proofs.YtljihmbmjpcfaaaGreat
open Go.RowKit Go.Shelf Go.Great
set_option maxRecDepth 100000

theorem flat_length : ∀ (l : List (List UInt8)), (∀ x ∈ l, x.length = 32) → l.flatten.length = l.length * 32
  | [], _ => by simp
  | x :: l, hx => by
    have h1 := flat_length l (fun y hy => hx y (List.mem_cons_of_mem _ hy))
    have h2 := hx x (List.mem_cons_self ..)
    rw [List.flatten_cons, List.length_append, List.length_cons]
    omega
theorem idAt_block {W : World} {b o : Nat} {x : List UInt8} (h : IdAt W b o x) (h32 : x.length = 32) : b < W.heap.size := by
  have : x[0]? = some x[0] := List.getElem?_eq_getElem (by omega)
  exact World.block_lt_of_cell? _ _ (IdAt.cell h this)
theorem idKeptT {T : Nat → Prop} {w w' : World} {b o : Nat} {xs : List UInt8} (h : IdAt w b o xs) (h32 : xs.length = 32) (hk : Kept T w w') (hb : ¬ T b) : IdAt w' b o xs :=
  fun j v hv => (hk.cell (p := ⟨b, o + j, none⟩) (idAt_block h h32) hb).trans (h j v hv)
theorem Is.lt1 {w : World} {v : Value} {l : List (List UInt8)} (h : Is w v l) (hl : l ≠ []) : ∀ j, v.ownBlock = some j → j < w.heap.size := by
  obtain ⟨h1, A, c, rfl, hc, h2⟩ := h
  intro j hj
  match l, hl with
  | x :: l, _ =>
    obtain ⟨b, off, rfl, h3⟩ := h2 0 x rfl
    have : b = j := by simpa [Value.ownBlock] using hj
    subst this
    exact idAt_block h3 (h1 x (List.mem_cons_self ..))
theorem Is.kept1 {T : Nat → Prop} {w w' : World} {v : Value} {l : List (List UInt8)} (h : Is w v l) (hk : Kept T w w') (hn : l ≠ [] → ∀ j, v.ownBlock = some j → ¬ T j) : Is w' v l := by
  obtain ⟨h1, A, c, rfl, hc, h2⟩ := h
  refine ⟨h1, A, c, rfl, hc, fun i x hx => ?_⟩
  obtain ⟨b, off, rfl, h3⟩ := h2 i x hx
  have hm := List.mem_of_getElem? hx
  exact ⟨b, off, rfl, idKeptT h3 (h1 x hm) hk (hn (List.ne_nil_of_mem hm) b rfl)⟩
theorem Es.lt1 {w : World} {v : Value} {l : List En} (h : Es eEn w v l) (hl : l ≠ []) : ∀ j, v.ownBlock = some j → j < w.heap.size := by
  obtain ⟨A, c, rfl, hc, h2⟩ := h
  intro j hj
  match l, hl with
  | x :: l, _ =>
    obtain ⟨b, off, rfl, h3⟩ := h2 0 x rfl
    have : b = j := by simpa [Value.ownBlock] using hj
    subst this
    exact World.block_lt_of_cell? _ _ (EnAt.nm h3)
theorem Es.kept1 {T : Nat → Prop} {w w' : World} {v : Value} {l : List En} (h : Es eEn w v l) (hk : Kept T w w') (hn : l ≠ [] → ∀ j, v.ownBlock = some j → ¬ T j) : Es eEn w' v l := by
  obtain ⟨A, c, rfl, hc, h2⟩ := h
  refine ⟨A, c, rfl, hc, fun i x hx => ?_⟩
  obtain ⟨b, off, rfl, h3⟩ := h2 i x hx
  exact ⟨b, off, rfl, ElAt.kept h3 hk (hn (List.ne_nil_of_mem (List.mem_of_getElem? hx)) b rfl)⟩
set_option maxHeartbeats 4000000 in
theorem wSevI_any (w : World) (n₀ g : Nat) (v : Value) (xs : List UInt8) (hn₀ : n₀ ≤ w.heap.size) (hat : WrSinkAt w n₀ g v xs) (s : Value) (ps : List (List UInt8)) (hs : Is w s ps) (hap : ps ≠ [] → ∀ j, s.ownBlock = some j → j ≠ g ∧ v.ownBlock ≠ some j) (hl : ps.length ≤ 1000) (hlen : xs.length ≤ 1000000) :
    Calls Tryz.prog 253 #[.pointer (some ⟨g, 0, none⟩), s, .func (.func 231) #[.pointer (some ⟨g, 0, none⟩)] #[]] w (WOut w n₀ g v (xs ++ (lebB ps.length ++ ps.flatten))) := by
  have hen := fun args w => wId_enters args w
  obtain ⟨A, c, rfl, hcap⟩ := hs.form
  generalize hn : ps.length = n at *
  have hu : IntKind.u64.wrap (n : Int) = (n : Int) := IntWalk.u64_in _ (by omega)
  have HN := Lib.hid hn
  have HS := Lib.hid hs
  have HA := Lib.hid hap
  have HLN := Lib.hid (lebB_u64 (n := n) (by omega))
  clear hs hn hap
  go_enter Tryz.func253, Tryz.ntmps253
  go_wp2_with fail
  refine (WrSinkNumber_any g n (by omega) w v xs n₀ hn₀ hat (by omega)).mono ?_
  rintro e w2 ⟨rfl, h2⟩
  have H2 := Lib.hid h2
  clear h2 hat
  go_wp2_with fail
  go_loopw [17] (fun i wr => ∃ k : Nat, k ≤ n ∧ i = .int .i64 (k : Int) ∧ WrSinkWrote w n₀ g v (xs ++ (lebB n ++ (ps.take k).flatten)) wr) (fun i _ => n - (RowKit.intOf i).toNat)
  case atStart => exact ⟨0, by omega, rfl, by simpa using H2.out⟩
  case round =>
    obtain ⟨k, hk, rfl, hrel⟩ := hrel
    by_cases hlt : k < n
    case neg =>
      have hkn : k = n := by omega
      have HE := Lib.hid (show ps.take k = ps from List.take_of_length_le (by rw [HN.out]; omega))
      rw [HE.out] at hrel
      have HR := Lib.hid hrel
      have hnk : ¬ (k : Int) < (n : Int) := by omega
      clear hkn hlt hrel
      go_wp2_with fail
      go_end0
      exact ⟨rfl, HR.out⟩
    case pos =>
      obtain ⟨x, hxk⟩ : ∃ x, ps[k]? = some x := ⟨_, List.getElem?_eq_getElem (by rw [HN.out]; exact hlt)⟩
      obtain ⟨hx32, b, off, rfl, hat⟩ := HS.out.at hxk
      obtain ⟨vr, hatr, hkr, hvr⟩ := hrel
      have hap := HA.out (List.ne_nil_of_mem (List.mem_of_getElem? hxk)) b rfl
      have hat1 : IdAt wr b (off + k * 32) x := idKeptT hat hx32 hkr (by rintro (e | e); exact hap.1 e; exact hap.2 e)
      have hklt : (k : Int) < (n : Int) := by omega
      have HT := Lib.hid (show (xs ++ (lebB n ++ (ps.take k).flatten)) ++ x = xs ++ (lebB n ++ (ps.take (k + 1)).flatten) by
        rw [List.take_add_one, hxk, List.flatten_append]
        simp [List.append_assoc])
      have HLEN := Lib.hid (show (xs ++ (lebB n ++ (ps.take k).flatten)).length ≤ 10000000 by
        have h1 := flat_length (ps.take k) (fun y hy => HS.out.1 y (List.mem_of_mem_take hy))
        have h2 := HLN.out
        have h3 : (ps.take k).length ≤ 1000 := by rw [List.length_take]; omega
        simp only [List.length_append]
        omega)
      generalize xs ++ (lebB n ++ (ps.take k).flatten) = pre at *
      have KR := Lib.hid hkr
      have VR := Lib.hid hvr
      have AR := Lib.hid hatr
      clear hxk hat hlt hkr hvr hatr hap H2
      go_wp2_with (first
        | (refine wpList_load_id rfl (.tmp 19) rfl rfl hx32 hat1 ?_)
        | (refine wpList_alloc_id rfl rfl ?_)
        | (refine wpList_store_id rfl (.tmp 7) (.tmp 20) rfl rfl (BoxI.new _ zeroID_length) hx32 rfl ?_; intro w3 b3 k3; have hBw : Below wr.heap.size wr w3 := (((Kept.refl (· = wr.heap.size) wr).alloc _).same k3).below (fun j _ e => by subst e; exact Nat.le_refl _) (Nat.le_refl _))
        | (refine wpList_load_id rfl (.tmp 7) rfl rfl hx32 b3.at ?_))
      refine (wId_any w3 n₀ g vr pre (Nat.le_trans hn₀ (Nat.le_trans KR.out.size hBw.size)) (AR.out.below hBw) x hx32 (by have := HLEN.out; omega)).mono ?_
      rintro e w4 ⟨rfl, h4⟩
      replace h4 := WrSinkWrote.chain KR.out VR.out (h4.ahead hBw)
      rw [HT.out] at h4
      have H4 := Lib.hid h4
      clear h4
      go_wp2_with fail
      go_roundw
      case rel => exact ⟨k + 1, by omega, by go_num, H4.out⟩
      case measure => simp [RowKit.intOf]; omega
set_option maxHeartbeats 1000000 in
theorem treeWrite_any (w : World) (n₀ g gb : Nat) (v : Value) (xs : List UInt8) (hn₀ : n₀ ≤ w.heap.size) (hat : WrSinkAt w n₀ g v xs) (s : Sl) (es : List En) (hb : BoxTree w gb s) (hs : Es eEn w s.v es) (hap : es ≠ [] → ∀ j, s.v.ownBlock = some j → j ≠ g ∧ v.ownBlock ≠ some j) (hl : es.length ≤ 32) (hes : ∀ x ∈ es, (x.kd = 1 ∨ x.kd = 2) ∧ x.nm.length ≤ 64) (hlen : xs.length ≤ 1000000) :
    Calls Tryz.prog 221 #[.pointer (some ⟨gb, 0, none⟩), .pointer (some ⟨g, 0, none⟩)] w (WOut w n₀ g v (xs ++ (lebB es.length ++ es.flatMap encEnB))) := by
  have hc := hb.cell
  have hmf : ∀ (fn : Fn) (first cap : Array Value) (w : World), (Instr.makeFunc fn first cap).run Tryz.prog w = .ok (.func fn first cap) w := fun _ _ _ _ => rfl
  have hcall := wSevE_any w n₀ g v xs hn₀ hat s.v es hs hap hl hes hlen
  have HC := Lib.hid hcall
  clear hcall hs hap hes hat hb
  go_enter Tryz.func221, Tryz.ntmps221
  go_wp2_with fail
  refine HC.out.mono ?_
  rintro e w2 ⟨rfl, h2⟩
  have H := Lib.hid h2
  clear h2
  go_wp2_with fail
  go_end0
  exact ⟨rfl, H.out⟩
set_option maxHeartbeats 4000000 in
theorem commitWrite_any (w : World) (n₀ g gb : Nat) (v : Value) (xs : List UInt8) (hn₀ : n₀ ≤ w.heap.size) (hat : WrSinkAt w n₀ g v xs) (x : Co) (ps : List (List UInt8)) (hb : BoxCo w gb x) (hs : Is w x.pv.v ps) (hgb : gb ≠ g ∧ v.ownBlock ≠ some gb) (hap : ps ≠ [] → ∀ j, x.pv.v.ownBlock = some j → j ≠ g ∧ v.ownBlock ≠ some j) (hl : ps.length ≤ 1000) (hml : x.msg.length ≤ 10000) (hlen : xs.length ≤ 1000) :
    Calls Tryz.prog 250 #[.pointer (some ⟨gb, 0, none⟩), .pointer (some ⟨g, 0, none⟩)] w (WOut w n₀ g v (xs ++ (x.tree ++ ((lebB ps.length ++ ps.flatten) ++ (lebB x.msg.length ++ x.msg))))) := by
  obtain ⟨tree, ⟨A, n, c⟩, msg, h32⟩ := x
  have hfl := flat_length ps hs.1
  have hl1 := lebB_u64 (n := ps.length) (by omega)
  obtain ⟨A', c', he, hcap⟩ := hs.form
  injection he with e1 e2 e3
  subst e1 e2 e3
  have c0 : IdAt w gb 0 tree := CoAt.tree hb.at
  change Is w (.slice A ps.length c) ps at hs
  replace hap : ps ≠ [] → ∀ j, (Value.slice A ps.length c).ownBlock = some j → j ≠ g ∧ v.ownBlock ≠ some j := hap
  show Calls Tryz.prog 250 #[.pointer (some ⟨gb, 0, none⟩), .pointer (some ⟨g, 0, none⟩)] w (WOut w n₀ g v (xs ++ (tree ++ ((lebB ps.length ++ ps.flatten) ++ (lebB msg.length ++ msg)))))
  replace hml : msg.length ≤ 10000 := hml
  have hmf : ∀ (fn : Fn) (first cap : Array Value) (w : World), (Instr.makeFunc fn first cap).run Tryz.prog w = .ok (.func fn first cap) w := fun _ _ _ _ => rfl
  have HAT := Lib.hid hat
  have HS := Lib.hid hs
  have HP := Lib.hid hap
  have HG := Lib.hid hgb
  have HB := Lib.hid hb
  have HE := Lib.hid (show ((xs ++ tree) ++ (lebB ps.length ++ ps.flatten)) ++ (lebB msg.length ++ msg) = xs ++ (tree ++ ((lebB ps.length ++ ps.flatten) ++ (lebB msg.length ++ msg))) by simp [List.append_assoc])
  have HL1 := Lib.hid (show (xs ++ tree).length ≤ 1032 by simp; omega)
  have HL2 := Lib.hid (show ((xs ++ tree) ++ (lebB ps.length ++ ps.flatten)).length ≤ 100000 by simp only [List.length_append]; omega)
  have HPL := Lib.hid hl
  have HML := Lib.hid hml
  generalize hn : ps.length = n at *
  have HN := Lib.hid hn
  clear hat hs hap hgb hb hfl hl1 hl hml hn hlen hcap
  go_enter Tryz.func250, Tryz.ntmps250
  go_wp2_with (refine wpList_load_id rfl (.tmp 7) rfl rfl h32 c0 ?_)
  refine (wId_any w n₀ g v xs hn₀ HAT.out tree h32 (by have := HL1.out; simp at this; omega)).mono ?_
  rintro e w2 ⟨rfl, h2⟩
  have b2 := h2.box HB.out HG.out.1 HG.out.2
  obtain ⟨v2, hat2, hk2, hv2⟩ := h2
  have hs2 : Is w2 (.slice A n c) ps := Is.kept1 HS.out hk2 (fun hne j hj => by
    have h := HP.out hne j hj
    rintro (e | e)
    · exact h.1 e
    · exact h.2 e)
  have c1 : w2.cell? ⟨gb, 32, none⟩ = some (.slice A n c) := by have := CoAt.pv b2.at; rwa [Nat.zero_add] at this
  have hsI := wSevI_any w2 n₀ g v2 (xs ++ tree) (Nat.le_trans hn₀ hk2.size) hat2 _ ps hs2 (fun hne j hj => by
    have hb0 := HS.out.lt1 hne j hj
    have h := HP.out hne j hj
    refine ⟨h.1, fun e => ?_⟩
    rcases hv2 with q | q
    · rw [q] at e; exact h.2 e
    · have := q j e; omega) (by rw [HN.out]; exact HPL.out) (by have := HL1.out; omega)
  rw [HN.out] at hsI
  have SI := Lib.hid hsI
  have K2 := Lib.hid hk2
  have V2 := Lib.hid hv2
  clear hsI hs2 hk2 hv2 hat2 c0
  go_wp2_with fail
  refine SI.out.mono ?_
  rintro e w3 ⟨rfl, h3⟩
  replace h3 := WrSinkWrote.chain K2.out V2.out h3
  have b3 := h3.box HB.out HG.out.1 HG.out.2
  obtain ⟨v3, hat3, hk3, hv3⟩ := h3
  have c2 : w3.cell? ⟨gb, 33, none⟩ = some (Str msg) := by have := CoAt.msg b3.at; rwa [Nat.zero_add] at this
  have A3 := Lib.hid hat3
  have K3 := Lib.hid hk3
  have V3 := Lib.hid hv3
  clear hk3 hv3 hat3 c1
  go_wp2_with fail
  refine (wText_any w3 n₀ g v3 _ (Nat.le_trans hn₀ K3.out.size) A3.out msg (by have := HL2.out; have := HML.out; omega)).mono ?_
  rintro e w4 ⟨rfl, h4⟩
  replace h4 := WrSinkWrote.chain K3.out V3.out h4
  rw [HE.out] at h4
  have H := Lib.hid h4
  clear h4 c2
  go_wp2_with fail
  go_end0
  exact ⟨rfl, H.out⟩
set_option maxHeartbeats 4000000 in
theorem tagWrite_any (w : World) (n₀ g gb : Nat) (v : Value) (xs : List UInt8) (hn₀ : n₀ ≤ w.heap.size) (hat : WrSinkAt w n₀ g v xs) (x : Tg) (hb : BoxTg w gb x) (hgb : gb ≠ g ∧ v.ownBlock ≠ some gb) (hkd : 1 ≤ x.tg.kd ∧ x.tg.kd ≤ 4) (hml : x.msg.length ≤ 10000) (hlen : xs.length ≤ 1000) :
    Calls Tryz.prog 258 #[.pointer (some ⟨gb, 0, none⟩), .pointer (some ⟨g, 0, none⟩)] w (WOut w n₀ g v (xs ++ (lebB x.tg.kd.toNat ++ (x.tg.id ++ (lebB x.msg.length ++ x.msg))))) := by
  obtain ⟨⟨kd, id, h32⟩, msg⟩ := x
  obtain ⟨k, rfl⟩ : ∃ k : Nat, kd = (k : Int) := ⟨kd.toNat, by dsimp only at hkd; omega⟩
  have hk4 : k ≤ 4 := by dsimp only at hkd; omega
  replace hml : msg.length ≤ 10000 := hml
  show Calls Tryz.prog 258 #[.pointer (some ⟨gb, 0, none⟩), .pointer (some ⟨g, 0, none⟩)] w (WOut w n₀ g v (xs ++ (lebB (k : Int).toNat ++ (id ++ (lebB msg.length ++ msg)))))
  rw [Int.toNat_natCast]
  have c0 : w.cell? ⟨gb, 0, none⟩ = some (.int .i64 (k : Int)) := LkAt.kd (TgAt.tg hb.at)
  have hl1 := lebB_u64 (n := k) (by omega)
  have HAT := Lib.hid hat
  have HG := Lib.hid hgb
  have HB := Lib.hid hb
  have HE := Lib.hid (show ((xs ++ lebB k) ++ id) ++ (lebB msg.length ++ msg) = xs ++ (lebB k ++ (id ++ (lebB msg.length ++ msg))) by simp [List.append_assoc])
  have HL0 := Lib.hid hlen
  have HL1 := Lib.hid (show (xs ++ lebB k).length ≤ 1010 by simp; omega)
  have HL2 := Lib.hid (show ((xs ++ lebB k) ++ id).length ≤ 100000 by simp only [List.length_append]; omega)
  have HML := Lib.hid hml
  clear hat hgb hb hl1 hml hlen hkd
  go_enter Tryz.func258, Tryz.ntmps258
  go_wp2_with fail
  refine (wKind_any w n₀ g v xs hn₀ HAT.out k (by omega) (by have := HL0.out; omega)).mono ?_
  rintro e w2 ⟨rfl, h2⟩
  have b2 := h2.box HB.out HG.out.1 HG.out.2
  obtain ⟨v2, hat2, hk2, hv2⟩ := h2
  have c1 : IdAt w2 gb 1 id := LkAt.id (TgAt.tg b2.at)
  have A2 := Lib.hid hat2
  have K2 := Lib.hid hk2
  have V2 := Lib.hid hv2
  clear hk2 hv2 hat2 c0
  go_wp2_with (refine wpList_load_id rfl (.tmp 15) rfl rfl h32 c1 ?_)
  refine (wId_any w2 n₀ g v2 _ (Nat.le_trans hn₀ K2.out.size) A2.out id h32 (by have := HL1.out; omega)).mono ?_
  rintro e w3 ⟨rfl, h3⟩
  replace h3 := WrSinkWrote.chain K2.out V2.out h3
  have b3 := h3.box HB.out HG.out.1 HG.out.2
  obtain ⟨v3, hat3, hk3, hv3⟩ := h3
  have c2 : w3.cell? ⟨gb, 33, none⟩ = some (Str msg) := by have := TgAt.msg b3.at; rwa [Nat.zero_add] at this
  have A3 := Lib.hid hat3
  have K3 := Lib.hid hk3
  have V3 := Lib.hid hv3
  clear hk3 hv3 hat3 c1
  go_wp2_with fail
  refine (wText_any w3 n₀ g v3 _ (Nat.le_trans hn₀ K3.out.size) A3.out msg (by have := HL2.out; have := HML.out; omega)).mono ?_
  rintro e w4 ⟨rfl, h4⟩
  replace h4 := WrSinkWrote.chain K3.out V3.out h4
  rw [HE.out] at h4
  have H := Lib.hid h4
  clear h4 c2
  go_wp2_with fail
  go_end0
  exact ⟨rfl, H.out⟩
end Go.Proofs.YtljihmbmjpcfaaaGreat
