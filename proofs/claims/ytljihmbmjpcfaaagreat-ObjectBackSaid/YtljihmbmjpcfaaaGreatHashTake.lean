/- Bytes that are taken into blocks, and blocks into the chain: the program's take. -/
import Derived.Test.YtljihmbmjpcfaaaGreatHashWith
import Derived.Test.YtljihmbmjpcfaaaGreatHashRefPad
import Derived.Test.YtljihmbmjpcfaaaGreatDrawnT
import Derived.Test.YtljihmbmjpcfaaaGreatHashClone
namespace Go.Proofs.YtljihmbmjpcfaaaGreat
open Go.RowKit Go.Shelf Go.Great
set_option maxRecDepth 100000

theorem turnS_lt (s : List Nat) (x : List UInt8) : ∀ y ∈ turnS s x, y < 4294967296 := by
  intro y hy
  unfold turnS at hy
  obtain ⟨i, hi, rfl⟩ := List.mem_iff_getElem.1 hy
  rw [List.getElem_zipWith]
  exact Nat.mod_lt _ (by decide)
theorem blocksS_lt : ∀ (m : Nat) (xs : List UInt8) (s : List Nat), (∀ y ∈ s, y < 4294967296) → ∀ y ∈ blocksS m xs s, y < 4294967296
  | 0, _, _, h => h
  | m + 1, xs, s, h => by
    rw [blocksS]
    split
    · exact h
    · exact blocksS_lt m _ _ (turnS_lt _ _)
theorem shaH_lt : ∀ y ∈ shaH, y < 4294967296 := by decide
theorem chainOf_lt (xs : List UInt8) : ∀ y ∈ chainOf xs, y < 4294967296 := by
  unfold chainOf
  split
  · intro y hy
    rw [List.mem_replicate] at hy
    omega
  · exact blocksS_lt _ _ _ shaH_lt
theorem workAt_turn (c : List Nat) (x : List UInt8) : workAt c x 64 = turnS c x := by
  unfold workAt
  rw [if_neg (by omega), turnS_eq]

/-- The block laid over. -/
def Rn.onBlock (r : Rn) (k : Nat) (ys : List UInt8) (h : k + ys.length ≤ 64) : Rn := ⟨r.c, blockOn r.b k ys, r.n, r.hc, blockOn_length r.hb h⟩
theorem enc_block (r : Rn) (k : Nat) (ys : List UInt8) (h : k + ys.length ≤ 64) : (encRn r).take (8 + k) ++ ys.map B8 ++ (encRn r).drop (8 + k + (ys.map B8).length) = encRn (r.onBlock k ys h) := by
  have h8 : (wds r.c).length = 8 := by rw [wds_length, r.hc]
  have hb := r.hb
  unfold encRn Rn.onBlock blockOn
  rw [List.take_append, List.drop_append, h8, List.take_of_length_le (by omega), List.drop_eq_nil_of_le (by omega), show 8 + k - 8 = k by omega, List.nil_append, List.length_map, show 8 + k + ys.length - 8 = k + ys.length by omega, List.take_append_of_le_length (by simp; omega), List.drop_append_of_le_length (by simp; omega)]
  simp [List.map_append, List.map_take, List.map_drop]
/-- The chain laid over. -/
def Rn.onChain (r : Rn) (c : Ch) : Rn := ⟨c.l, r.b, r.n, c.h, r.hb⟩
theorem enc_chain (r : Rn) (c : Ch) : (encRn r).take 0 ++ eCh.enc c ++ (encRn r).drop (0 + (eCh.enc c).length) = encRn (r.onChain c) := by
  have h8 : (wds r.c).length = 8 := by rw [wds_length, r.hc]
  have h9 : (eCh.enc c).length = 8 := eCh.len c
  unfold encRn Rn.onChain
  rw [h9, List.take_zero, List.nil_append, List.drop_append, List.drop_eq_nil_of_le (by omega), h8, List.nil_append, Nat.zero_add, Nat.sub_self, List.drop_zero]
  rfl
def Rn.onLen (r : Rn) (n : Nat) : Rn := ⟨r.c, r.b, n, r.hc, r.hb⟩
theorem enc_len (r : Rn) (n : Nat) : (encRn r).set 72 (.int .i64 (n : Int)) = encRn (r.onLen n) := by
  have h8 : (wds r.c).length = 8 := by rw [wds_length, r.hc]
  have hb := r.hb
  unfold encRn Rn.onLen
  rw [List.set_append_right _ _ (by omega), h8, List.set_append_right _ _ (by simp; omega)]
  simp [hb]
abbrev BoxR (W : World) (g : Nat) (r : Rn) : Prop := BoxE eRn 121 W g r
theorem BoxR.setBlock {W : World} {g : Nat} {r : Rn} (h : BoxR W g r) (k : Nat) (ys : List UInt8) (hk : k + ys.length ≤ 64) : BoxR (W.setCells g (8 + k) (ys.map B8)) g (r.onBlock k ys hk) ∧ Kept (· = g) W (W.setCells g (8 + k) (ys.map B8)) := by
  obtain ⟨h1, h2⟩ := setCells_box (ys.map B8) (eRn.enc r) g (8 + k) W _ h (by rw [eRn.len r]; simp [eRn]; omega)
  refine ⟨?_, h2⟩
  unfold BoxR BoxE
  rw [h1]
  show some (Obj.cells ((encRn r).take (8 + k) ++ ys.map B8 ++ (encRn r).drop (8 + k + (ys.map B8).length)).toArray _ _) = _
  rw [enc_block r k ys hk]
  rfl
theorem BoxR.setChain {W : World} {g : Nat} {r : Rn} (h : BoxR W g r) (c : Ch) : BoxR (W.setCells g 0 (eCh.enc c)) g (r.onChain c) ∧ Kept (· = g) W (W.setCells g 0 (eCh.enc c)) := by
  obtain ⟨h1, h2⟩ := setCells_box (eCh.enc c) (eRn.enc r) g 0 W _ h (by rw [eRn.len r, eCh.len c]; simp [eRn, eCh])
  refine ⟨?_, h2⟩
  unfold BoxR BoxE
  rw [h1]
  show some (Obj.cells ((encRn r).take 0 ++ eCh.enc c ++ (encRn r).drop (0 + (eCh.enc c).length)).toArray _ _) = _
  rw [enc_chain r c]
  rfl
theorem BoxR.cellB {W : World} {g : Nat} {r : Rn} (h : BoxR W g r) {i : Nat} {x : UInt8} (hx : r.b[i]? = some x) : W.cell? ⟨g, 8 + i, none⟩ = some (B8 x) := by
  have := RnAt.block h.at i (B8 x) (by rw [List.getElem?_map, hx]; rfl)
  rwa [Nat.zero_add] at this
theorem BoxR.len {W : World} {g : Nat} {r : Rn} (h : BoxR W g r) : W.cell? ⟨g, 72, none⟩ = some (.int .i64 (r.n : Int)) := by
  have := RnAt.len h.at
  rwa [Nat.zero_add] at this
/-- A chain stored at the head of a hash. -/
theorem wpList_store_chain {ops : Array Oper} {rest : List Oper} {o : Oper} {a : Act} {w : World} {Q : Exit → Act → World → Prop} (hg : o.guard = none) (x y : Operand) (ho : o.op = .store 114 x y) {g : Nat} (hx : a.eval x = .pointer (some ⟨g, 0, none⟩)) {r : Rn} {c : Ch} (hbox : BoxR w g r) (hy : a.eval y = eCh.val c)
    (h : ∀ w', BoxR w' g (r.onChain c) → Kept (· = g) w w' → wpList Tryz.prog ops Q rest (a.put o.dst undef) w') : wpList Tryz.prog ops Q (o :: rest) a w := by
  refine wpList_store_mid hg 114 x y ho g 0 (eCh.enc c).toArray hx hy (fun j hj => hbox.there j ?_) (by simpa [eCh.len] using sizeCh) (all_oneCell_toArray (eCh.one c)) ?_
  · have : (eCh.enc c).length = 8 := eCh.len c
    simp at hj
    show j < 73
    omega
  · obtain ⟨h1, h2⟩ := hbox.setChain c
    exact h _ h1 h2

theorem lenSucc {α : Type} {l : List α} {n : Nat} (h : l.length = n + 1) : ∃ x m, l = x :: m ∧ m.length = n := by
  cases l with
  | nil => simp at h
  | cons x m => exact ⟨x, m, rfl, by simpa using h⟩
/-- copy(r.block[k:], b). -/
theorem run_copy_block (w : World) (ty : TypeId) (g k : Nat) {r : Rn} (hb : BoxR w g r) (A : Addr) (m c : Nat) (zs : List UInt8) (hs : Bs w (.slice (some A) m c) zs) (n : Nat) (hn : n = Nat.min zs.length (64 - k)) (h : k + (zs.take n).length ≤ 64) :
    ∃ w', (Builtin.copy_ #[22, 22] ty #[.slice (some ⟨g, 8 + k, none⟩) (64 - k) (64 - k), .slice (some A) m c]).run Tryz.prog w = .ok (.int .i64 (n : Int)) w' ∧ BoxR w' g (r.onBlock k (zs.take n) h) ∧ Kept (· = g) w w' := by
  have hi1 : (Tryz.prog.info? 5).map (·.size) = some 1 := by kernel_rfl
  have hml : m = zs.length := by
    rcases hs.form with ⟨A', c', e, _⟩
    injection e
  have hnl : (zs.take n).length = n := by rw [List.length_take, hn]; exact Nat.min_eq_left (Nat.min_le_left _ _)
  have hx : ∀ j x, zs[j]? = some x → w.cell? (A.add j) = some (B8 x) := by
    rcases hs with ⟨e, _⟩ | ⟨A', c', e, _, h3⟩
    · cases e
    · injection e with e1
      injection e1 with e2
      subst e2
      exact h3
  have hr := run_copy_cells (P := Tryz.prog) w 22 22 ty 5 g (8 + k) (64 - k) (64 - k) A m c ((zs.take n).map B8) Tryz.underlying22 hi1 (by rw [List.length_map, hnl, hn, hml])
    (fun j v hv => by
      rw [List.getElem?_map] at hv
      cases hj : (zs.take n)[j]? with
      | none => rw [hj] at hv; cases hv
      | some x =>
        rw [hj] at hv
        cases hv
        refine hx j x ?_
        rw [List.getElem?_take] at hj
        split at hj
        · exact hj
        · cases hj)
    (fun j hj => by have := (hb.there (8 + k + j) (by simp at hj; show 8 + k + j < 73; omega)).1; rwa [Nat.zero_add] at this)
    (fun j hj => by have := (hb.there (8 + k + j) (by simp at hj; show 8 + k + j < 73; omega)).2; rwa [Nat.zero_add] at this)
    (fun v hv => by
      obtain ⟨x, _, rfl⟩ := List.mem_map.1 hv
      rfl)
  rw [List.length_map, hnl] at hr
  obtain ⟨h1, h2⟩ := hb.setBlock k (zs.take n) h
  exact ⟨_, hr, h1, h2⟩

set_option maxHeartbeats 2000000 in
theorem take_any (w : World) (gr gk ok : Nat) (v : Value) (xs0 ys : List UInt8) (r : Rn) (hr : BoxR w gr r) (ht : Took xs0 r.c r.b) (hn : r.n = xs0.length) (hv : Bs w v ys) (hvb : ys ≠ [] → ∀ j, v.ownBlock = some j → j ≠ gr) (hk : ElAt eCn w gk ok cnAll) (hgk : gk ≠ gr) (hlen : xs0.length + ys.length < 4611686018427387904) :
    Calls Tryz.prog 58 #[.pointer (some ⟨gr, 0, none⟩), v, .pointer (some ⟨gk, ok, none⟩)] w fun e W' => (∃ u, e = .returned u) ∧ (∃ r', BoxR W' gr r' ∧ Took (xs0 ++ ys) r'.c r'.b ∧ r'.n = (xs0 ++ ys).length) ∧ Kept (· = gr) w W' := by
  have hgkl : gk < w.heap.size := World.block_lt_of_cell? _ _ (CnAt.rounds hk (i := 0) (y := shaK.getD 0 0) rfl)
  go_enter Tryz.func58, Tryz.ntmps58
  go_wp2_with fail
  go_loopw [1] (fun u wr => ∃ (done rest : List UInt8) (q : Rn), ys = done ++ rest ∧ Bs wr u rest ∧ (rest ≠ [] → ∀ j, u.ownBlock = some j → j ≠ gr) ∧ BoxR wr gr q ∧ Took (xs0 ++ done) q.c q.b ∧ q.n = (xs0 ++ done).length ∧ Kept (· = gr) w wr) (fun u _ => lenV u)
  case atStart => exact ⟨[], ys, r, rfl, hv, hvb, hr, by rw [List.append_nil]; exact ht, by rw [List.append_nil]; exact hn, Kept.refl _ _⟩
  case round =>
    clear hr ht hn hv hvb
    obtain ⟨done, rest, q, hys, hu, hub, hq, ht, hn, hK⟩ := hrel
    have hkk : ElAt eCn wr gk ok cnAll := hk.kept hK (by omega)
    cases rest with
    | nil =>
      obtain ⟨A, c, rfl, hc⟩ := hu.form
      rw [List.append_nil] at hys
      subst hys
      go_wp2_with fail
      go_end0
      exact ⟨⟨_, rfl⟩, ⟨q, hq, ht, hn⟩, hK⟩
    | cons z zs =>
      obtain ⟨b, off, c, rfl, hc, _⟩ := hu.cons
      generalize hrest : z :: zs = rest at *
      have hr0 : 0 < rest.length := by rw [← hrest]; simp
      clear hrest
      obtain ⟨k, hkN⟩ : ∃ k, k = (xs0 ++ done).length % 64 := ⟨_, rfl⟩
      have hk64 : k < 64 := by omega
      obtain ⟨n, hnn⟩ : ∃ n, n = Nat.min rest.length (64 - k) := ⟨_, rfl⟩
      have hnr : n ≤ rest.length := by rw [hnn]; exact Nat.min_le_left _ _
      have hnk : n ≤ 64 - k := by rw [hnn]; exact Nat.min_le_right _ _
      have hn0 : 0 < n := by rw [hnn]; exact (Nat.lt_min).2 ⟨hr0, by omega⟩
      have htl : (rest.take n).length = n := by rw [List.length_take]; omega
      have hyl : ys.length = done.length + rest.length := by rw [hys, List.length_append]
      have hLl : (xs0 ++ done).length = xs0.length + done.length := List.length_append
      obtain ⟨N, hN⟩ : ∃ N, N = q.n := ⟨_, rfl⟩
      have hN2 : N < 4611686018427387904 := by omega
      have hNk : N % 64 = k := by rw [hN, hn, ← hkN]
      have hcl := hq.len
      rw [← hN] at hcl
      have hcld : wr.drew.cell? ⟨gr, 72, none⟩ = some (.int .i64 (N : Int)) := hcl
      have hmd : (N : Int) % 64 = (k : Int) := by omega
      have hmd2 : (N : Int).tmod 64 = (k : Int) := by rw [Int.tmod_eq_emod_of_nonneg (by omega)]; exact hmd
      have hsl := slice_a64 wr.drew gr 8 k hk64
      have hfit : k + (rest.take n).length ≤ 64 := by rw [htl]; omega
      obtain ⟨w1, hcp, hq1, hk1⟩ := run_copy_block wr.drew 3 gr k (r := q) hq ⟨b, off, none⟩ rest.length c rest hu n hnn hfit
      have hri : (0 : Int) < (rest.length : Int) := by omega
      have hdone : ys = (done ++ rest.take n) ++ rest.drop n := by rw [List.append_assoc, List.take_append_drop]; exact hys
      have HDN := Lib.hid hdone
      clear hdone
      have HYS := Lib.hid hys
      have HKN := Lib.hid hkN
      have HNN := Lib.hid hnn
      have HTL := Lib.hid htl
      have HN := Lib.hid hN
      have HQN := Lib.hid hn
      clear hys hkN hnn htl hN hn hyl hLl hNk
      go_wp2_with fail
      have hl1 : w1.cell? ⟨gr, 72, none⟩ = some (.int .i64 (N : Int)) := by
        have := hq1.len
        rw [HN.out]
        exact this
      have hf1 := hq1.frozen 72
      have hq2 : BoxR (w1.setCell ⟨gr, 72, none⟩ (.int .i64 ((N : Int) + (n : Int)))) gr ((q.onBlock k (rest.take n) hfit).onLen (N + n)) := BoxE.put hq1 (.int .i64 ((N : Int) + (n : Int))) (enc_len (q.onBlock k (rest.take n) hfit) (N + n))
      have hK1 : Kept (· = gr) wr w1 := ⟨hk1.os, hk1.tape, hk1.output, hk1.size, hk1.block⟩
      have hK2 := hK1.setCell (p := ⟨gr, 72, none⟩) (fun _ => rfl) (.int .i64 ((N : Int) + (n : Int)))
      have hnri : (n : Int) ≤ (rest.length : Int) := by omega
      have HQ2 := Lib.hid hq2
      have HK2 := Lib.hid hK2
      clear hq2 hK2 hK1 hk1 hq1
      have hbs2 := HK2.out.bs hu (fun j hj => hub (by intro e; rw [e] at hr0; simp at hr0) j hj)
      have hbs3 := hbs2.drop (k := n) (by omega)
      simp only [Option.map_some, add_plain] at hbs3
      obtain ⟨A', hA'⟩ : ∃ A', (if c = n then some (⟨b, off, none⟩ : Addr) else some ⟨b, off + n, none⟩) = A' := ⟨_, rfl⟩
      rw [hA'] at hbs3
      have HBS := Lib.hid hbs3
      have HKK2 : ElAt eCn (w1.setCell ⟨gr, 72, none⟩ (.int .i64 ((N : Int) + (n : Int)))) gk ok cnAll := hkk.kept HK2.out (by omega)
      have hub3 : ∀ j, (Value.slice A' (rest.length - n) (c - n)).ownBlock = some j → j ≠ gr := fun j hj => by
        refine hub (by intro e; rw [e] at hr0; simp at hr0) j ?_
        rw [← hj, ← hA']
        split <;> rfl
      have HUB := Lib.hid hub3
      clear hbs2 hbs3 hub3
      by_cases hfull : k + n = 64
      case neg =>
        have hA1 : ((N : Int) + (n : Int) == 64) = false := beq_eq_false_iff_ne.2 (by omega)
        have hA2 : (((N : Int) + (n : Int)) % 64 == 0) = false := beq_eq_false_iff_ne.2 (by omega)
        go_still_tail 10, (by kernel_rfl)
        change wpList _ _ _ _ _ wr.drew
        clear hcld hmd hmd2 hsl hcl
        go_wp2_with (first
          | (at_builtin; refine Lib.wpList_copy_run _ rfl (.tmp 18) (.tmp 19) 22 22 rfl _ _ rfl rfl hcp ?_))
        refine ⟨⟨done ++ rest.take n, rest.drop n, _, HDN.out, HBS.out, fun _ => HUB.out, HQ2.out, ?_, ?_, hK.same HK2.out⟩, by simp only [lenV]; omega⟩
        · rw [← List.append_assoc]
          have := took_less ht (ys := rest.take n) (by rw [HTL.out, ← HKN.out]; omega) (by rw [HTL.out]; exact hn0)
          rw [← HKN.out] at this
          exact this
        · rw [← List.append_assoc, List.length_append, HTL.out, ← HQN.out, ← HN.out]
          rfl
      case pos =>
        have htf := took_full ht (ys := rest.take n) (by rw [HTL.out, ← HKN.out]; exact hfull)
        rw [← HKN.out] at htf
        obtain ⟨hbl, htf⟩ := htf
        rw [← hbl] at htf
        have hb64 : (blockOn q.b k (rest.take n)).length = 64 := blockOn_length q.hb hfit
        have hlenN : ((xs0 ++ done) ++ rest.take n).length = N + n := by rw [List.length_append, HTL.out, ← HQN.out, ← HN.out]
        rw [hlenN] at htf
        have HTF := Lib.hid htf
        have HLN := Lib.hid hlenN
        clear htf hbl hlenN
        have hA2 : (((N : Int) + (n : Int)) % 64 == 0) = true := beq_iff_eq.2 (by omega)
        by_cases h64 : N + n = 64
        case pos =>
          have hA1 : ((N : Int) + (n : Int) == 64) = true := beq_iff_eq.2 (by omega)
          go_still_tail 10, (by kernel_rfl)
          change wpList _ _ _ _ _ wr.drew
          clear hcld hmd hmd2 hsl hcl
          go_wp2_with (first
            | (at_builtin; refine Lib.wpList_copy_run _ rfl (.tmp 18) (.tmp 19) 22 22 rfl _ _ rfl rfl hcp ?_)
            | (refine wpList_load_e (E := eCh) Tryz.underlying114 rfl sizeCh rfl (.tmp 40) rfl rfl (CnAt.beg HKK2) ?_)
            | (refine wpList_store_chain rfl (.tmp 43) (.tmp 41) rfl rfl HQ2.out rfl ?_
               intro w3 y3 k3
               have hl3 : w3.cell? ⟨gr, 72, none⟩ = some (.int .i64 ((N : Int) + (n : Int))) := BoxR.len y3))
          have HBS3 := Lib.hid (k3.bs HBS.out (fun j hj => HUB.out j hj))
          have HKK3 : ElAt eCn w3 gk ok cnAll := HKK2.kept k3 (by omega)
          have HK3 := Lib.hid (HK2.out.same k3)
          have HQ3 := Lib.hid y3
          clear y3 k3 HBS HKK2 HK2 HQ2 hl3
          generalize hq2 : ((q.onBlock k (rest.take n) hfit).onLen (N + n)).onChain ⟨cnAll.b, cnAll.hb⟩ = q2 at *
          have hb2 : q2.b = blockOn q.b k (rest.take n) := by rw [← hq2]; rfl
          have hcc2 : q2.c = shaH := by rw [← hq2]; rfl
          have hn2 : q2.n = N + n := by rw [← hq2]; rfl
          have hc2 : ∀ y ∈ q2.c, y < 4294967296 := by
            rw [hcc2]
            exact shaH_lt
          obtain ⟨CC, hCC⟩ : ∃ CC : Ch, CC = ⟨q2.c, q2.hc⟩ := ⟨_, rfl⟩
          obtain ⟨RR, hRR⟩ : ∃ RR : Ch, RR = ⟨workAt q2.c q2.b 64, workAt_length q2.c q2.b q2.hc 64⟩ := ⟨_, rfl⟩
          have HW : ∀ W, Below w3.heap.size w3 W → Calls Tryz.prog 84 #[eCh.val CC, .pointer (some ⟨gr, 8, none⟩), .pointer (some ⟨gk, ok, none⟩)] W fun e W' => e = .returned (eCh.val RR) ∧ Below W.heap.size W W' := fun W hW => by
            rw [hCC, hRR]
            exact with_any W ⟨q2.c, q2.hc⟩ hc2 gr 8 gk ok q2.b q2.hb (fun i y h => BoxR.cellB (BoxE.below HQ3.out hW) h) (HKK3.below hW)
          have HAT : ∀ W, Below w3.heap.size w3 W → ElAt eCh W gr 0 CC := fun W hW => by
            rw [hCC]
            exact RnAt.chain (BoxE.at (BoxE.below HQ3.out hW))
          have HRR := Lib.hid hRR
          clear hRR hCC
          refine wp_drawn_tail 10 (fun _ => false) (fun i v _ => v = ([.pointer (some ⟨gr, 0, none⟩), .pointer (some ⟨gr, 0, none⟩), .pointer (some ⟨gr, 0, none⟩), .pointer (some ⟨gr, 0, none⟩), eCh.val CC, .pointer (some ⟨gr, 0, none⟩), .pointer (some ⟨gr, 0, none⟩), .pointer (some ⟨gr, 8, none⟩), .pointer (some ⟨gk, ok, none⟩), eCh.val RR] : List Value).getD i undef) (by kernel_rfl) (fun _ _ _ _ h _ => h) (by simp) (by kernel_rfl) (by kernel_rfl) (by kernel_rfl) (by kernel_rfl) ?_ ?_ ?_
          case refine_1 =>
            intro i o j b hin ho hgd
            match i, ho with
            | 0, ho => cases ho; cases hgd
            | 1, ho => cases ho; cases hgd
            | 2, ho => cases ho; cases hgd
            | 3, ho => cases ho; cases hgd
            | 4, ho => cases ho; cases hgd
            | 5, ho => cases ho; cases hgd
            | 6, ho => cases ho; cases hgd
            | 7, ho => cases ho; cases hgd
            | 8, ho => cases ho; cases hgd
            | 9, ho => cases ho; cases hgd
            | i + 10, ho => omega
          case refine_2 =>
            intro i o hin ho hgd ac W hdf hBW hF hD
            match i, ho with
            | 0, ho =>
              cases ho
              have r0 : ac.tmps[0]?.getD undef = .pointer (some ⟨gr, 0, none⟩) := hF 0 (by kernel_rfl)
              unfold Oper.wp
              go_simp
              first | exact ⟨rfl, Below.refl _ _⟩ | exact Below.refl _ _ | exact ⟨_, rfl, Below.refl _ _⟩ | exact ⟨_, rfl, rfl, Below.refl _ _⟩ | exact ⟨_, rfl, rfl, Below.refl _ _, fun h => by cases h⟩ | trivial
            | 1, ho =>
              cases ho
              have r0 : ac.tmps[0]?.getD undef = .pointer (some ⟨gr, 0, none⟩) := hF 0 (by kernel_rfl)
              unfold Oper.wp
              go_simp
              first | exact ⟨rfl, Below.refl _ _⟩ | exact Below.refl _ _ | exact ⟨_, rfl, Below.refl _ _⟩ | exact ⟨_, rfl, rfl, Below.refl _ _⟩ | exact ⟨_, rfl, rfl, Below.refl _ _, fun h => by cases h⟩ | trivial
            | 2, ho =>
              cases ho
              have r51 : ac.tmps[51]?.getD undef = .pointer (some ⟨gr, 0, none⟩) := hD 1 (by kernel_rfl)
              unfold Oper.wp
              go_simp
              first | exact ⟨rfl, Below.refl _ _⟩ | exact Below.refl _ _ | exact ⟨_, rfl, Below.refl _ _⟩ | exact ⟨_, rfl, rfl, Below.refl _ _⟩ | exact ⟨_, rfl, rfl, Below.refl _ _, fun h => by cases h⟩ | trivial
            | 3, ho =>
              cases ho
              have r52 : ac.tmps[52]?.getD undef = .pointer (some ⟨gr, 0, none⟩) := hD 2 (by kernel_rfl)
              unfold Oper.wp
              go_simp
              first | exact ⟨rfl, Below.refl _ _⟩ | exact Below.refl _ _ | exact ⟨_, rfl, Below.refl _ _⟩ | exact ⟨_, rfl, rfl, Below.refl _ _⟩ | exact ⟨_, rfl, rfl, Below.refl _ _, fun h => by cases h⟩ | trivial
            | 4, ho =>
              cases ho
              have r53 : ac.tmps[53]?.getD undef = .pointer (some ⟨gr, 0, none⟩) := hD 3 (by kernel_rfl)
              unfold Oper.wp
              rw [exec_load_el (E := eCh) Tryz.underlying114 rfl sizeCh rfl (eval_tmp r53) (HAT W hBW)]
              first | exact ⟨rfl, Below.refl _ _⟩ | exact Below.refl _ _ | exact ⟨_, rfl, Below.refl _ _⟩ | exact ⟨_, rfl, rfl, Below.refl _ _⟩ | exact ⟨_, rfl, rfl, Below.refl _ _, fun h => by cases h⟩ | trivial
            | 5, ho =>
              cases ho
              have r0 : ac.tmps[0]?.getD undef = .pointer (some ⟨gr, 0, none⟩) := hF 0 (by kernel_rfl)
              unfold Oper.wp
              go_simp
              first | exact ⟨rfl, Below.refl _ _⟩ | exact Below.refl _ _ | exact ⟨_, rfl, Below.refl _ _⟩ | exact ⟨_, rfl, rfl, Below.refl _ _⟩ | exact ⟨_, rfl, rfl, Below.refl _ _, fun h => by cases h⟩ | trivial
            | 6, ho =>
              cases ho
              have r55 : ac.tmps[55]?.getD undef = .pointer (some ⟨gr, 0, none⟩) := hD 5 (by kernel_rfl)
              unfold Oper.wp
              go_simp
              first | exact ⟨rfl, Below.refl _ _⟩ | exact Below.refl _ _ | exact ⟨_, rfl, Below.refl _ _⟩ | exact ⟨_, rfl, rfl, Below.refl _ _⟩ | exact ⟨_, rfl, rfl, Below.refl _ _, fun h => by cases h⟩ | trivial
            | 7, ho =>
              cases ho
              have r56 : ac.tmps[56]?.getD undef = .pointer (some ⟨gr, 0, none⟩) := hD 6 (by kernel_rfl)
              unfold Oper.wp
              go_simp
              first | exact ⟨rfl, Below.refl _ _⟩ | exact Below.refl _ _ | exact ⟨_, rfl, Below.refl _ _⟩ | exact ⟨_, rfl, rfl, Below.refl _ _⟩ | exact ⟨_, rfl, rfl, Below.refl _ _, fun h => by cases h⟩ | trivial
            | 8, ho =>
              cases ho
              have r2 : ac.tmps[2]?.getD undef = .pointer (some ⟨gk, ok, none⟩) := hF 2 (by kernel_rfl)
              unfold Oper.wp
              go_simp
              first | exact ⟨rfl, Below.refl _ _⟩ | exact Below.refl _ _ | exact ⟨_, rfl, Below.refl _ _⟩ | exact ⟨_, rfl, rfl, Below.refl _ _⟩ | exact ⟨_, rfl, rfl, Below.refl _ _, fun h => by cases h⟩ | trivial
            | 9, ho =>
              cases ho
              have r54 : ac.tmps[54]?.getD undef = eCh.val CC := hD 4 (by kernel_rfl)
              have r57 : ac.tmps[57]?.getD undef = .pointer (some ⟨gr, 8, none⟩) := hD 7 (by kernel_rfl)
              have r58 : ac.tmps[58]?.getD undef = .pointer (some ⟨gk, ok, none⟩) := hD 8 (by kernel_rfl)
              unfold Oper.wp
              go_simp
              refine (HW W hBW).mono ?_
              rintro e w' ⟨rfl, hb⟩
              first | exact ⟨rfl, hb⟩ | exact hb | exact ⟨_, rfl, hb⟩ | exact ⟨_, rfl, rfl, hb⟩ | exact ⟨_, rfl, rfl, hb, fun h => by cases h⟩
            | i + 10, ho => omega
          case refine_3 =>
            intro L L2 hL hBW hSp hap ac ha
            obtain ⟨x0, L0, rfl, hL0⟩ := lenSucc hL
            obtain ⟨x1, L1, rfl, hL1⟩ := lenSucc hL0
            obtain ⟨x2, L2, rfl, hL2⟩ := lenSucc hL1
            obtain ⟨x3, L3, rfl, hL3⟩ := lenSucc hL2
            obtain ⟨x4, L4, rfl, hL4⟩ := lenSucc hL3
            obtain ⟨x5, L5, rfl, hL5⟩ := lenSucc hL4
            obtain ⟨x6, L6, rfl, hL6⟩ := lenSucc hL5
            obtain ⟨x7, L7, rfl, hL7⟩ := lenSucc hL6
            obtain ⟨x8, L8, rfl, hL8⟩ := lenSucc hL7
            obtain ⟨x9, L9, rfl, hL9⟩ := lenSucc hL8
            obtain rfl := List.eq_nil_of_length_eq_zero hL9
            obtain rfl : x0 = .pointer (some ⟨gr, 0, none⟩) := hSp 0 _ rfl
            obtain rfl : x1 = .pointer (some ⟨gr, 0, none⟩) := hSp 1 _ rfl
            obtain rfl : x2 = .pointer (some ⟨gr, 0, none⟩) := hSp 2 _ rfl
            obtain rfl : x3 = .pointer (some ⟨gr, 0, none⟩) := hSp 3 _ rfl
            obtain rfl : x4 = eCh.val CC := hSp 4 _ rfl
            obtain rfl : x5 = .pointer (some ⟨gr, 0, none⟩) := hSp 5 _ rfl
            obtain rfl : x6 = .pointer (some ⟨gr, 0, none⟩) := hSp 6 _ rfl
            obtain rfl : x7 = .pointer (some ⟨gr, 8, none⟩) := hSp 7 _ rfl
            obtain rfl : x8 = .pointer (some ⟨gk, ok, none⟩) := hSp 8 _ rfl
            obtain rfl : x9 = eCh.val RR := hSp 9 _ rfl
            simp only [putsL, List.take_succ_cons, List.take_zero, Act.put, List.setIfInBounds_toArray, List.set_cons_succ, List.set_cons_zero] at ha
            subst ha
            simp only [List.drop_succ_cons, List.drop_zero]
            have hqL : BoxR L2 gr q2 := BoxE.below HQ3.out hBW
            go_wp2_with (refine wpList_store_chain rfl (.tmp 61) (.tmp 59) rfl rfl hqL rfl ?_; intro w5 y5 k5)
            simp only [Act.put]
            go_roundw
            case rel =>
              have hkt : Kept (· = gr) w w5 := (hK.same HK3.out).same ((Kept.of_below hBW (Nat.le_refl _) (· = gr)).same k5)
              refine ⟨done ++ rest.take n, rest.drop n, q2.onChain RR, HDN.out, k5.bs (HBS3.out.below hBW) (fun j hj => HUB.out j hj), fun _ => HUB.out, y5, ?_, ?_, hkt⟩
              · rw [← List.append_assoc]
                have := HTF.out
                rw [if_pos h64] at this
                show Took _ RR.l q2.b
                rw [HRR.out]
                show Took _ (workAt q2.c q2.b 64) q2.b
                rw [workAt_turn, hcc2, hb2]
                exact this
              · rw [← List.append_assoc, HLN.out]
                exact hn2
            case measure =>
              simp only [lenV]
              omega
        case neg =>
          have hA1 : ((N : Int) + (n : Int) == 64) = false := beq_eq_false_iff_ne.2 (by omega)
          go_still_tail 10, (by kernel_rfl)
          change wpList _ _ _ _ _ wr.drew
          clear hcld hmd hmd2 hsl hcl
          go_wp2_with (first
            | (at_builtin; refine Lib.wpList_copy_run _ rfl (.tmp 18) (.tmp 19) 22 22 rfl _ _ rfl rfl hcp ?_))

          generalize w1.setCell ⟨gr, 72, none⟩ (.int .i64 ((N : Int) + (n : Int))) = w2 at *
          generalize hq2 : (q.onBlock k (rest.take n) hfit).onLen (N + n) = q2 at *
          have hb2 : q2.b = blockOn q.b k (rest.take n) := by rw [← hq2]; rfl
          have hcc2 : q2.c = q.c := by rw [← hq2]; rfl
          have hn2 : q2.n = N + n := by rw [← hq2]; rfl
          have hc2 : ∀ y ∈ q2.c, y < 4294967296 := by
            rw [hcc2, ht.2.1]
            exact chainOf_lt _
          obtain ⟨CC, hCC⟩ : ∃ CC : Ch, CC = ⟨q2.c, q2.hc⟩ := ⟨_, rfl⟩
          obtain ⟨RR, hRR⟩ : ∃ RR : Ch, RR = ⟨workAt q2.c q2.b 64, workAt_length q2.c q2.b q2.hc 64⟩ := ⟨_, rfl⟩
          have HW : ∀ W, Below w2.heap.size w2 W → Calls Tryz.prog 84 #[eCh.val CC, .pointer (some ⟨gr, 8, none⟩), .pointer (some ⟨gk, ok, none⟩)] W fun e W' => e = .returned (eCh.val RR) ∧ Below W.heap.size W W' := fun W hW => by
            rw [hCC, hRR]
            exact with_any W ⟨q2.c, q2.hc⟩ hc2 gr 8 gk ok q2.b q2.hb (fun i y h => BoxR.cellB (BoxE.below HQ2.out hW) h) (HKK2.below hW)
          have HAT : ∀ W, Below w2.heap.size w2 W → ElAt eCh W gr 0 CC := fun W hW => by
            rw [hCC]
            exact RnAt.chain (BoxE.at (BoxE.below HQ2.out hW))
          have HRR := Lib.hid hRR
          clear hRR hCC
          refine wp_drawn_tail 10 (fun _ => false) (fun i v _ => v = ([.pointer (some ⟨gr, 0, none⟩), .pointer (some ⟨gr, 0, none⟩), .pointer (some ⟨gr, 0, none⟩), .pointer (some ⟨gr, 0, none⟩), eCh.val CC, .pointer (some ⟨gr, 0, none⟩), .pointer (some ⟨gr, 0, none⟩), .pointer (some ⟨gr, 8, none⟩), .pointer (some ⟨gk, ok, none⟩), eCh.val RR] : List Value).getD i undef) (by kernel_rfl) (fun _ _ _ _ h _ => h) (by simp) (by kernel_rfl) (by kernel_rfl) (by kernel_rfl) (by kernel_rfl) ?_ ?_ ?_
          case refine_1 =>
            intro i o j b hin ho hgd
            match i, ho with
            | 0, ho => cases ho; cases hgd
            | 1, ho => cases ho; cases hgd
            | 2, ho => cases ho; cases hgd
            | 3, ho => cases ho; cases hgd
            | 4, ho => cases ho; cases hgd
            | 5, ho => cases ho; cases hgd
            | 6, ho => cases ho; cases hgd
            | 7, ho => cases ho; cases hgd
            | 8, ho => cases ho; cases hgd
            | 9, ho => cases ho; cases hgd
            | i + 10, ho => omega
          case refine_2 =>
            intro i o hin ho hgd ac W hdf hBW hF hD
            match i, ho with
            | 0, ho =>
              cases ho
              have r0 : ac.tmps[0]?.getD undef = .pointer (some ⟨gr, 0, none⟩) := hF 0 (by kernel_rfl)
              unfold Oper.wp
              go_simp
              first | exact ⟨rfl, Below.refl _ _⟩ | exact Below.refl _ _ | exact ⟨_, rfl, Below.refl _ _⟩ | exact ⟨_, rfl, rfl, Below.refl _ _⟩ | exact ⟨_, rfl, rfl, Below.refl _ _, fun h => by cases h⟩ | trivial
            | 1, ho =>
              cases ho
              have r0 : ac.tmps[0]?.getD undef = .pointer (some ⟨gr, 0, none⟩) := hF 0 (by kernel_rfl)
              unfold Oper.wp
              go_simp
              first | exact ⟨rfl, Below.refl _ _⟩ | exact Below.refl _ _ | exact ⟨_, rfl, Below.refl _ _⟩ | exact ⟨_, rfl, rfl, Below.refl _ _⟩ | exact ⟨_, rfl, rfl, Below.refl _ _, fun h => by cases h⟩ | trivial
            | 2, ho =>
              cases ho
              have r51 : ac.tmps[51]?.getD undef = .pointer (some ⟨gr, 0, none⟩) := hD 1 (by kernel_rfl)
              unfold Oper.wp
              go_simp
              first | exact ⟨rfl, Below.refl _ _⟩ | exact Below.refl _ _ | exact ⟨_, rfl, Below.refl _ _⟩ | exact ⟨_, rfl, rfl, Below.refl _ _⟩ | exact ⟨_, rfl, rfl, Below.refl _ _, fun h => by cases h⟩ | trivial
            | 3, ho =>
              cases ho
              have r52 : ac.tmps[52]?.getD undef = .pointer (some ⟨gr, 0, none⟩) := hD 2 (by kernel_rfl)
              unfold Oper.wp
              go_simp
              first | exact ⟨rfl, Below.refl _ _⟩ | exact Below.refl _ _ | exact ⟨_, rfl, Below.refl _ _⟩ | exact ⟨_, rfl, rfl, Below.refl _ _⟩ | exact ⟨_, rfl, rfl, Below.refl _ _, fun h => by cases h⟩ | trivial
            | 4, ho =>
              cases ho
              have r53 : ac.tmps[53]?.getD undef = .pointer (some ⟨gr, 0, none⟩) := hD 3 (by kernel_rfl)
              unfold Oper.wp
              rw [exec_load_el (E := eCh) Tryz.underlying114 rfl sizeCh rfl (eval_tmp r53) (HAT W hBW)]
              first | exact ⟨rfl, Below.refl _ _⟩ | exact Below.refl _ _ | exact ⟨_, rfl, Below.refl _ _⟩ | exact ⟨_, rfl, rfl, Below.refl _ _⟩ | exact ⟨_, rfl, rfl, Below.refl _ _, fun h => by cases h⟩ | trivial
            | 5, ho =>
              cases ho
              have r0 : ac.tmps[0]?.getD undef = .pointer (some ⟨gr, 0, none⟩) := hF 0 (by kernel_rfl)
              unfold Oper.wp
              go_simp
              first | exact ⟨rfl, Below.refl _ _⟩ | exact Below.refl _ _ | exact ⟨_, rfl, Below.refl _ _⟩ | exact ⟨_, rfl, rfl, Below.refl _ _⟩ | exact ⟨_, rfl, rfl, Below.refl _ _, fun h => by cases h⟩ | trivial
            | 6, ho =>
              cases ho
              have r55 : ac.tmps[55]?.getD undef = .pointer (some ⟨gr, 0, none⟩) := hD 5 (by kernel_rfl)
              unfold Oper.wp
              go_simp
              first | exact ⟨rfl, Below.refl _ _⟩ | exact Below.refl _ _ | exact ⟨_, rfl, Below.refl _ _⟩ | exact ⟨_, rfl, rfl, Below.refl _ _⟩ | exact ⟨_, rfl, rfl, Below.refl _ _, fun h => by cases h⟩ | trivial
            | 7, ho =>
              cases ho
              have r56 : ac.tmps[56]?.getD undef = .pointer (some ⟨gr, 0, none⟩) := hD 6 (by kernel_rfl)
              unfold Oper.wp
              go_simp
              first | exact ⟨rfl, Below.refl _ _⟩ | exact Below.refl _ _ | exact ⟨_, rfl, Below.refl _ _⟩ | exact ⟨_, rfl, rfl, Below.refl _ _⟩ | exact ⟨_, rfl, rfl, Below.refl _ _, fun h => by cases h⟩ | trivial
            | 8, ho =>
              cases ho
              have r2 : ac.tmps[2]?.getD undef = .pointer (some ⟨gk, ok, none⟩) := hF 2 (by kernel_rfl)
              unfold Oper.wp
              go_simp
              first | exact ⟨rfl, Below.refl _ _⟩ | exact Below.refl _ _ | exact ⟨_, rfl, Below.refl _ _⟩ | exact ⟨_, rfl, rfl, Below.refl _ _⟩ | exact ⟨_, rfl, rfl, Below.refl _ _, fun h => by cases h⟩ | trivial
            | 9, ho =>
              cases ho
              have r54 : ac.tmps[54]?.getD undef = eCh.val CC := hD 4 (by kernel_rfl)
              have r57 : ac.tmps[57]?.getD undef = .pointer (some ⟨gr, 8, none⟩) := hD 7 (by kernel_rfl)
              have r58 : ac.tmps[58]?.getD undef = .pointer (some ⟨gk, ok, none⟩) := hD 8 (by kernel_rfl)
              unfold Oper.wp
              go_simp
              refine (HW W hBW).mono ?_
              rintro e w' ⟨rfl, hb⟩
              first | exact ⟨rfl, hb⟩ | exact hb | exact ⟨_, rfl, hb⟩ | exact ⟨_, rfl, rfl, hb⟩ | exact ⟨_, rfl, rfl, hb, fun h => by cases h⟩
            | i + 10, ho => omega
          case refine_3 =>
            intro L L2 hL hBW hSp hap ac ha
            obtain ⟨x0, L0, rfl, hL0⟩ := lenSucc hL
            obtain ⟨x1, L1, rfl, hL1⟩ := lenSucc hL0
            obtain ⟨x2, L2, rfl, hL2⟩ := lenSucc hL1
            obtain ⟨x3, L3, rfl, hL3⟩ := lenSucc hL2
            obtain ⟨x4, L4, rfl, hL4⟩ := lenSucc hL3
            obtain ⟨x5, L5, rfl, hL5⟩ := lenSucc hL4
            obtain ⟨x6, L6, rfl, hL6⟩ := lenSucc hL5
            obtain ⟨x7, L7, rfl, hL7⟩ := lenSucc hL6
            obtain ⟨x8, L8, rfl, hL8⟩ := lenSucc hL7
            obtain ⟨x9, L9, rfl, hL9⟩ := lenSucc hL8
            obtain rfl := List.eq_nil_of_length_eq_zero hL9
            obtain rfl : x0 = .pointer (some ⟨gr, 0, none⟩) := hSp 0 _ rfl
            obtain rfl : x1 = .pointer (some ⟨gr, 0, none⟩) := hSp 1 _ rfl
            obtain rfl : x2 = .pointer (some ⟨gr, 0, none⟩) := hSp 2 _ rfl
            obtain rfl : x3 = .pointer (some ⟨gr, 0, none⟩) := hSp 3 _ rfl
            obtain rfl : x4 = eCh.val CC := hSp 4 _ rfl
            obtain rfl : x5 = .pointer (some ⟨gr, 0, none⟩) := hSp 5 _ rfl
            obtain rfl : x6 = .pointer (some ⟨gr, 0, none⟩) := hSp 6 _ rfl
            obtain rfl : x7 = .pointer (some ⟨gr, 8, none⟩) := hSp 7 _ rfl
            obtain rfl : x8 = .pointer (some ⟨gk, ok, none⟩) := hSp 8 _ rfl
            obtain rfl : x9 = eCh.val RR := hSp 9 _ rfl
            simp only [putsL, List.take_succ_cons, List.take_zero, Act.put, List.setIfInBounds_toArray, List.set_cons_succ, List.set_cons_zero] at ha
            subst ha
            simp only [List.drop_succ_cons, List.drop_zero]
            have hqL : BoxR L2 gr q2 := BoxE.below HQ2.out hBW
            go_wp2_with (refine wpList_store_chain rfl (.tmp 61) (.tmp 59) rfl rfl hqL rfl ?_; intro w5 y5 k5)
            simp only [Act.put]
            go_roundw
            case rel =>
              have hkt : Kept (· = gr) w w5 := (hK.same HK2.out).same ((Kept.of_below hBW (Nat.le_refl _) (· = gr)).same k5)
              refine ⟨done ++ rest.take n, rest.drop n, q2.onChain RR, HDN.out, k5.bs (HBS.out.below hBW) (fun j hj => HUB.out j hj), fun _ => HUB.out, y5, ?_, ?_, hkt⟩
              · rw [← List.append_assoc]
                have := HTF.out
                rw [if_neg h64] at this
                show Took _ RR.l q2.b
                rw [HRR.out]
                show Took _ (workAt q2.c q2.b 64) q2.b
                rw [workAt_turn, hcc2, hb2]
                exact this
              · rw [← List.append_assoc, HLN.out]
                exact hn2
            case measure =>
              simp only [lenV]
              omega
end Go.Proofs.YtljihmbmjpcfaaaGreat
