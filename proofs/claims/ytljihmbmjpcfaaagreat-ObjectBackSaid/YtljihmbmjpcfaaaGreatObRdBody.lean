/- Several parts read, and the four bodies. The four bodies, read. -/
import Derived.Test.YtljihmbmjpcfaaaGreatObRdId
namespace Go.Proofs.YtljihmbmjpcfaaaGreat
open Go.RowKit Go.Shelf Go.Great
set_option maxRecDepth 100000

theorem rdSevP_succ {α : Type} (f : List UInt8 → Bool → α × List UInt8 × Bool) : ∀ (k : Nat) (xs : List UInt8) (b : Bool), rdSevP f (k + 1) xs b = ((rdSevP f k xs b).1 ++ [(f (rdSevP f k xs b).2.1 (rdSevP f k xs b).2.2).1], (f (rdSevP f k xs b).2.1 (rdSevP f k xs b).2.2).2)
  | 0, xs, b => by simp [rdSevP]
  | k + 1, xs, b => by
    rw [rdSevP, rdSevP_succ f k (f xs b).2.1 (f xs b).2.2]
    simp [rdSevP]
theorem rdSevP_length {α : Type} (f : List UInt8 → Bool → α × List UInt8 × Bool) : ∀ (k : Nat) (xs : List UInt8) (b : Bool), (rdSevP f k xs b).1.length = k
  | 0, xs, b => rfl
  | k + 1, xs, b => by
    rw [rdSevP]
    simp [rdSevP_length f k]
theorem rdSevP_left {α : Type} {f : List UInt8 → Bool → α × List UInt8 × Bool} (hf : ∀ xs b, (f xs b).2.1.length ≤ xs.length) : ∀ (k : Nat) (xs : List UInt8) (b : Bool), (rdSevP f k xs b).2.1.length ≤ xs.length
  | 0, xs, b => Nat.le_refl _
  | k + 1, xs, b => by
    rw [rdSevP]
    exact Nat.le_trans (rdSevP_left hf k _ _) (hf xs b)
theorem rId_enters (args : Array Value) (w : World) : (callFunc 229 args).run Tryz.prog w = .ok (.enter 229 args) w := enters_of Tryz.func229 (by kernel_rfl) rfl args w
set_option maxHeartbeats 4000000 in
theorem rSevE_any (w : World) (gr gs : Nat) (v : Value) (xs : List UInt8) (b : Bool) (hat : RdAt w gr gs v xs b) (hlen : xs.length ≤ 1000000) (most : Nat) (hm : most ≤ 1000) :
    Calls Tryz.prog 223 #[.pointer (some ⟨gr, 0, none⟩), .int .u64 most, .func (.func 224) #[.pointer (some ⟨gr, 0, none⟩)] #[]] w fun e W' => ∃ r, e = .returned r ∧ RowE eEn 70 W' w.heap.size r (rdSevP rdEnP (rdNum most xs b).1 (rdNum most xs b).2.1 (rdNum most xs b).2.2).1 ∧ RdOut w gr gs v (rdSevP rdEnP (rdNum most xs b).1 (rdNum most xs b).2.1 (rdNum most xs b).2.2).2.1 (rdSevP rdEnP (rdNum most xs b).1 (rdNum most xs b).2.1 (rdNum most xs b).2.2).2.2 W' := by
  have hen := fun args w => rEntry_enters args w
  have hle := rdNum_le most xs b
  have hl1 := rdNum_left most xs b
  obtain ⟨n, xs1, b1, hn⟩ : ∃ n xs1 b1, rdNum most xs b = (n, xs1, b1) := ⟨_, _, _, rfl⟩
  rw [hn] at hle hl1 ⊢
  dsimp only at hle hl1 ⊢
  have hgr := hat.lt
  have hgs := hat.src.box.lt
  have HRL := Lib.hid (fun j hj => (hat.src.row j hj).1)
  have HN := Lib.hid hn
  have HX1 := Lib.hid (show xs1.length ≤ 1000000 by omega)
  have hn1 : n ≤ 1000 := by omega
  clear hn hl1 hle
  go_enter Tryz.func223, Tryz.ntmps223
  go_wp2_with fail
  refine (rNumber_any w gr gs v xs b hat (by omega) most).mono ?_
  rintro e w2 ⟨rfl, hout⟩
  rw [HN.out] at hout ⊢
  dsimp only at hout ⊢
  have H2 := Lib.hid hout
  clear hout hat
  go_wp2_with fail
  go_loopw [7, 11] (fun s i wr => ∃ k : Nat, k ≤ n ∧ i = .int .u64 (k : Int) ∧ RowE eEn 70 wr w.heap.size s (rdSevP rdEnP k xs1 b1).1 ∧ RdOut w gr gs v (rdSevP rdEnP k xs1 b1).2.1 (rdSevP rdEnP k xs1 b1).2.2 wr) (fun _ i _ => n - (RowKit.intOf i).toNat)
  case atStart => exact ⟨0, by omega, rfl, RowE.nil _ _, H2.out⟩
  case round =>
    obtain ⟨k, hk, rfl, hrow, hO⟩ := hrel
    by_cases hlt : k < n
    case neg =>
      obtain rfl : k = n := by omega
      have HR := Lib.hid hrow
      have HO := Lib.hid hO
      obtain ⟨Ar, cr, rfl, _⟩ := hrow.slice
      have hnk : ¬ (k : Int) < (k : Int) := by omega
      clear hlt hrow hO H2
      go_wp2_with fail
      go_ret
      exact ⟨_, rfl, HR.out, HO.out⟩
    case pos =>
      have hsucc := rdSevP_succ rdEnP k xs1 b1
      have hll := rdSevP_length rdEnP k xs1 b1
      have hyl := rdSevP_left rdEnP_left k xs1 b1
      obtain ⟨l, ys, b2, hl⟩ : ∃ l ys b2, rdSevP rdEnP k xs1 b1 = (l, ys, b2) := ⟨_, _, _, rfl⟩
      rw [hl] at hsucc hrow hO hll hyl
      dsimp only at hsucc hrow hO hll hyl
      obtain ⟨x, zs, b3, hx⟩ : ∃ x zs b3, rdEnP ys b2 = (x, zs, b3) := ⟨_, _, _, rfl⟩
      rw [hx] at hsucc
      dsimp only at hsucc
      have HSC := Lib.hid hsucc
      have HXX := Lib.hid hx
      have HLL := Lib.hid (show l.length ≤ 1000 by omega)
      have HYL := Lib.hid (show ys.length ≤ 1000000 by have := HX1.out; omega)
      obtain ⟨vr, hatr, hkr, hvr⟩ := hO
      have hszr := hkr.size
      obtain ⟨Ar, cr, rfl, _⟩ := hrow.slice
      have hklt : (k : Int) < (n : Int) := by omega
      have HKR := Lib.hid hkr
      have HVR := Lib.hid hvr
      have HROW := Lib.hid hrow
      clear hsucc hll hyl hl hx hkr hvr hlt hrow H2
      go_wp2_with fail
      refine (rEntry_any wr gr gs vr ys b2 hatr HYL.out).mono ?_
      rintro e w3 ⟨rfl, hout3⟩
      rw [HXX.out] at hout3 ⊢
      dsimp only at hout3 ⊢
      have O3 := Lib.hid (RdOut.then HKR.out HVR.out hout3)
      obtain ⟨v3, hat3, hk3, hv3⟩ := hout3
      have HROW3 := Lib.hid (show RowE eEn 70 w3 w.heap.size (.slice Ar l.length cr) l from hk3.owns HROW.out (fun j hj => by
        have := (World.ownsRow.lt HROW.out j hj).1
        rintro (e | e) <;> omega))
      have hsz3 : w.heap.size ≤ w3.heap.size := Nat.le_trans hszr hk3.size
      clear hat3 hk3 hv3 hatr
      go_wp2_with (first
        | (refine wpList_one_e (E := eEn) elEn (by decide) rfl (.tmp 15) rfl (x := x) rfl ?_; have hone := Es.one_e (E := eEn) w3 x 70; have hB4 := (Below.refl w3.heap.size w3).alloc (Nat.le_refl _) (.cells (eEn.enc x).toArray 70); have hrow4 := RowE.below HROW3.out hB4; generalize hg4 : w3.alloc (.cells (eEn.enc x).toArray 70) = w4 at hone hB4 hrow4 ⊢; clear hg4)
        | (at_builtin; refine wpList_append_es elEn rfl (.tmp 13) (.tmp 16) rfl w.heap.size _ l rfl hrow4 _ [x] rfl hone (by have := HLL.out; simp; omega) (Nat.le_trans hsz3 hB4.size) ?_; intro v5 w5 hown5 hg5 hv5; have hown5' := hown5; obtain ⟨A5, c5, rfl, _⟩ := hown5.slice))
      have hB5 : Below w.heap.size w3 w5 := (hB4.mono hsz3).trans ((Kept.of_grown hg5).below (B := w.heap.size) (fun j _ e => (World.ownsRow.lt hrow4 j e).1) (Nat.le_trans hsz3 hB4.size))
      have O5 := Lib.hid (O3.out.behindNew (n := w.heap.size) hgr hgs HRL.out hB5 (Nat.le_refl _))
      have R5 := Lib.hid hown5'
      clear hB4 hrow4 hone hown5 hown5' hg5 hv5 hB5 O3
      go_roundw
      case rel =>
        refine ⟨k + 1, by omega, by go_num, ?_, ?_⟩
        · rw [HSC.out]
          have h := R5.out
          rw [List.length_append] at h
          exact h
        · rw [HSC.out]
          exact O5.out
      case measure => simp [RowKit.intOf]; omega
set_option maxHeartbeats 4000000 in
theorem rSevI_any (w : World) (gr gs : Nat) (v : Value) (xs : List UInt8) (b : Bool) (hat : RdAt w gr gs v xs b) (hlen : xs.length ≤ 1000000) (most : Nat) (hm : most ≤ 1000) :
    Calls Tryz.prog 252 #[.pointer (some ⟨gr, 0, none⟩), .int .u64 most, .func (.func 229) #[.pointer (some ⟨gr, 0, none⟩)] #[]] w fun e W' => ∃ r, e = .returned r ∧ RowI W' w.heap.size r (rdSevP rdIdP (rdNum most xs b).1 (rdNum most xs b).2.1 (rdNum most xs b).2.2).1 ∧ RdOut w gr gs v (rdSevP rdIdP (rdNum most xs b).1 (rdNum most xs b).2.1 (rdNum most xs b).2.2).2.1 (rdSevP rdIdP (rdNum most xs b).1 (rdNum most xs b).2.1 (rdNum most xs b).2.2).2.2 W' := by
  have hen := fun args w => rId_enters args w
  have hle := rdNum_le most xs b
  have hl1 := rdNum_left most xs b
  obtain ⟨n, xs1, b1, hn⟩ : ∃ n xs1 b1, rdNum most xs b = (n, xs1, b1) := ⟨_, _, _, rfl⟩
  rw [hn] at hle hl1 ⊢
  dsimp only at hle hl1 ⊢
  have hgr := hat.lt
  have hgs := hat.src.box.lt
  have HRL := Lib.hid (fun j hj => (hat.src.row j hj).1)
  have HN := Lib.hid hn
  have HX1 := Lib.hid (show xs1.length ≤ 1000000 by omega)
  have hn1 : n ≤ 1000 := by omega
  clear hn hl1 hle
  go_enter Tryz.func252, Tryz.ntmps252
  go_wp2_with fail
  refine (rNumber_any w gr gs v xs b hat (by omega) most).mono ?_
  rintro e w2 ⟨rfl, hout⟩
  rw [HN.out] at hout ⊢
  dsimp only at hout ⊢
  have H2 := Lib.hid hout
  clear hout hat
  go_wp2_with fail
  go_loopw [7, 11] (fun s i wr => ∃ k : Nat, k ≤ n ∧ i = .int .u64 (k : Int) ∧ RowI wr w.heap.size s (rdSevP rdIdP k xs1 b1).1 ∧ RdOut w gr gs v (rdSevP rdIdP k xs1 b1).2.1 (rdSevP rdIdP k xs1 b1).2.2 wr) (fun _ i _ => n - (RowKit.intOf i).toNat)
  case atStart => exact ⟨0, by omega, rfl, RowI.nil _ _, H2.out⟩
  case round =>
    obtain ⟨k, hk, rfl, hrow, hO⟩ := hrel
    by_cases hlt : k < n
    case neg =>
      obtain rfl : k = n := by omega
      have HR := Lib.hid hrow
      have HO := Lib.hid hO
      obtain ⟨Ar, cr, rfl, _⟩ := hrow.slice
      have hnk : ¬ (k : Int) < (k : Int) := by omega
      clear hlt hrow hO H2
      go_wp2_with fail
      go_ret
      exact ⟨_, rfl, HR.out, HO.out⟩
    case pos =>
      have hsucc := rdSevP_succ rdIdP k xs1 b1
      have hll := rdSevP_length rdIdP k xs1 b1
      have hyl := rdSevP_left rdIdP_left k xs1 b1
      obtain ⟨l, ys, b2, hl⟩ : ∃ l ys b2, rdSevP rdIdP k xs1 b1 = (l, ys, b2) := ⟨_, _, _, rfl⟩
      rw [hl] at hsucc hrow hO hll hyl
      dsimp only at hsucc hrow hO hll hyl
      have h32 := rdIdP_length ys b2
      obtain ⟨x, zs, b3, hx⟩ : ∃ x zs b3, rdIdP ys b2 = (x, zs, b3) := ⟨_, _, _, rfl⟩
      rw [hx] at hsucc h32
      dsimp only at hsucc h32
      have HSC := Lib.hid hsucc
      have HXX := Lib.hid hx
      have HLL := Lib.hid (show l.length ≤ 1000 by omega)
      have HYL := Lib.hid (show ys.length ≤ 1000000 by have := HX1.out; omega)
      obtain ⟨vr, hatr, hkr, hvr⟩ := hO
      have hszr := hkr.size
      obtain ⟨Ar, cr, rfl, _⟩ := hrow.slice
      have hklt : (k : Int) < (n : Int) := by omega
      have HKR := Lib.hid hkr
      have HVR := Lib.hid hvr
      have HROW := Lib.hid hrow
      clear hsucc hll hyl hl hx hkr hvr hlt hrow H2
      go_wp2_with fail
      refine (rId_any wr gr gs vr ys b2 hatr (by have := HYL.out; omega)).mono ?_
      rintro e w3 ⟨rfl, hout3⟩
      rw [HXX.out] at hout3 ⊢
      dsimp only at hout3 ⊢
      have O3 := Lib.hid (RdOut.then HKR.out HVR.out hout3)
      obtain ⟨v3, hat3, hk3, hv3⟩ := hout3
      have HROW3 := Lib.hid (show RowI w3 w.heap.size (.slice Ar l.length cr) l from ⟨HROW.out.sized, hk3.owns HROW.out.own (fun j hj => by
        have := (World.ownsRow.lt HROW.out.own j hj).1
        rintro (e | e) <;> omega)⟩)
      have hsz3 : w.heap.size ≤ w3.heap.size := Nat.le_trans hszr hk3.size
      clear hat3 hk3 hv3 hatr
      go_wp2_with (first
        | (refine wpList_one_id rfl (.tmp 15) rfl h32 rfl ?_; have hone := Is.one w3 h32 25; have hB4 := (Below.refl w3.heap.size w3).alloc (Nat.le_refl _) (.cells (x.map B8).toArray 25); have hrow4 := RowI.below HROW3.out hB4; generalize hg4 : w3.alloc (.cells (x.map B8).toArray 25) = w4 at hone hB4 hrow4 ⊢; clear hg4)
        | (at_builtin; refine wpList_append_is rfl (.tmp 13) (.tmp 16) rfl w.heap.size _ l rfl hrow4 _ [x] rfl hone (by have := HLL.out; simp; omega) (Nat.le_trans hsz3 hB4.size) ?_; intro v5 w5 hown5 hg5 hv5; have hown5' := hown5; obtain ⟨A5, c5, rfl, _⟩ := hown5.slice))
      have hB5 : Below w.heap.size w3 w5 := (hB4.mono hsz3).trans ((Kept.of_grown hg5).below (B := w.heap.size) (fun j _ e => (World.ownsRow.lt hrow4.own j e).1) (Nat.le_trans hsz3 hB4.size))
      have O5 := Lib.hid (O3.out.behindNew (n := w.heap.size) hgr hgs HRL.out hB5 (Nat.le_refl _))
      have R5 := Lib.hid hown5'
      clear hB4 hrow4 hone hown5 hown5' hg5 hv5 hB5 O3
      go_roundw
      case rel =>
        refine ⟨k + 1, by omega, by go_num, ?_, ?_⟩
        · rw [HSC.out]
          have h := R5.out
          rw [List.length_append] at h
          exact h
        · rw [HSC.out]
          exact O5.out
      case measure => simp [RowKit.intOf]; omega
end Go.Proofs.YtljihmbmjpcfaaaGreat
namespace Go.Proofs.YtljihmbmjpcfaaaGreat
open Go.RowKit Go.Shelf Go.Great
set_option maxRecDepth 100000

/-- What a body's read leaves of the reader. -/
def RdG (w : World) (gr gs gb : Nat) (v : Value) (xs : List UInt8) (b : Bool) (W : World) : Prop := ∃ v', RdAt W gr gs v' xs b ∧ Kept (fun j => j = gs ∨ j = gr ∨ j = gb) w W ∧ v'.ownBlock = v.ownBlock
theorem RdOut.keptOf {w W : World} {gr gs : Nat} {v : Value} {xs : List UInt8} {b : Bool} (h : RdOut w gr gs v xs b W) : Kept (fun j => j = gs ∨ j = gr) w W := by
  obtain ⟨_, _, h2, _⟩ := h
  exact h2
theorem RdOut.toG {w W : World} {gr gs gb : Nat} {v : Value} {xs : List UInt8} {b : Bool} (h : RdOut w gr gs v xs b W) : RdG w gr gs gb v xs b W := by
  obtain ⟨v', h1, h2, h3⟩ := h
  exact ⟨v', h1, h2.mono (fun j _ h => by rcases h with h | h; exact .inl h; exact .inr (.inl h)), h3⟩
theorem RdG.thenOut {w w1 W : World} {gr gs gb : Nat} {v v1 : Value} {ys : List UInt8} {b : Bool} (hk : Kept (fun j => j = gs ∨ j = gr ∨ j = gb) w w1) (hv : v1.ownBlock = v.ownBlock) (h : RdOut w1 gr gs v1 ys b W) : RdG w gr gs gb v ys b W := by
  obtain ⟨v', h1, h2, h3⟩ := h
  exact ⟨v', h1, hk.same (h2.mono (fun j _ h => by rcases h with h | h; exact .inl h; exact .inr (.inl h))), h3.trans hv⟩
/-- The body's block turned behind a read. -/
theorem RdG.put {w w1 W : World} {gr gs gb : Nat} {v : Value} {xs : List UInt8} {b : Bool} (h : RdG w gr gs gb v xs b w1) (k : Kept (fun j => j = gb) w1 W) (h1 : gb ≠ gr) (h2 : gb ≠ gs) (h3 : ∀ j, v.ownBlock = some j → j ≠ gb) : RdG w gr gs gb v xs b W := by
  obtain ⟨v', q1, q2, q3⟩ := h
  exact ⟨v', ⟨q1.src.kept k (fun e => h2 e.symm) (fun j hj e => h3 j (q3 ▸ hj) e), (k.block gr q1.lt (fun e => h1 e.symm)).trans q1.rd, q1.ne, q1.row⟩, q2.same (k.mono (fun j _ e => .inr (.inr e))), q3⟩
theorem co_tree (x : Co) (id : List UInt8) (h : id.length = 32) : (eCo.enc x).take 0 ++ id.map B8 ++ (eCo.enc x).drop (0 + (id.map B8).length) = eCo.enc ⟨id, x.pv, x.msg, h⟩ := by
  show (encCo x).take 0 ++ id.map B8 ++ (encCo x).drop (0 + (id.map B8).length) = encCo ⟨id, x.pv, x.msg, h⟩
  have hx := x.h
  have e : 0 + (id.map B8).length = (x.tree.map B8).length := by simp [h, hx]
  rw [e]
  unfold encCo
  rw [List.drop_left' rfl]
  simp
theorem co_pv (x : Co) (s : Sl) : (eCo.enc x).set 32 s.v = eCo.enc { x with pv := s } := by
  show (encCo x).set 32 s.v = encCo { x with pv := s }
  have hx := x.h
  unfold encCo
  rw [List.set_append_right _ _ (by simp [hx])]
  simp [hx]
theorem co_msg (x : Co) (m : List UInt8) : (eCo.enc x).set 33 (Str m) = eCo.enc { x with msg := m } := by
  show (encCo x).set 33 (Str m) = encCo { x with msg := m }
  have hx := x.h
  unfold encCo
  rw [List.set_append_right _ _ (by simp [hx])]
  simp [hx]
theorem tg_kd (x : Tg) (k : Int) : (eTg.enc x).set 0 (.int .i64 k) = eTg.enc { x with tg := { x.tg with kd := k } } := rfl
theorem tg_id (x : Tg) (id : List UInt8) (h : id.length = 32) : (eTg.enc x).take 1 ++ id.map B8 ++ (eTg.enc x).drop (1 + (id.map B8).length) = eTg.enc { x with tg := ⟨x.tg.kd, id, h⟩ } := by
  show (encTg x).take 1 ++ id.map B8 ++ (encTg x).drop (1 + (id.map B8).length) = encTg { x with tg := ⟨x.tg.kd, id, h⟩ }
  have hx := x.tg.h
  unfold encTg
  have e : 1 + (id.map B8).length = (encL x.tg).length := by simp [encL_length, h]
  rw [e, List.drop_left' rfl]
  simp [encL]
theorem tg_msg (x : Tg) (m : List UInt8) : (eTg.enc x).set 33 (Str m) = eTg.enc { x with msg := m } := by
  show (encTg x).set 33 (Str m) = encTg { x with msg := m }
  unfold encTg
  rw [List.set_append_right _ _ (by rw [encL_length]; exact Nat.le_refl _), encL_length]
  simp
set_option maxHeartbeats 1000000 in
theorem blobRead_any (w : World) (gr gs gb : Nat) (v x : Value) (xs : List UInt8) (b : Bool) (hat : RdAt w gr gs v xs b) (hlen : xs.length ≤ 1000000) (hb : Boxed w gb 162 x) (h1 : gb ≠ gr) (h2 : gb ≠ gs) (h3 : ∀ j, v.ownBlock = some j → j ≠ gb) :
    Calls Tryz.prog 204 #[.pointer (some ⟨gb, 0, none⟩), .pointer (some ⟨gr, 0, none⟩)] w fun e W' => e = .returned (.tuple #[]) ∧ ∃ s : Sl, BoxBlob W' gb s ∧ W'.ownsRow w.heap.size 5 1 s.v (rdBy 1024 xs b).1.length ((rdBy 1024 xs b).1.map B8) ∧ RdG w gr gs gb v (rdBy 1024 xs b).2.1 (rdBy 1024 xs b).2.2 W' := by
  have hlt := hb.lt
  obtain ⟨d, r1, b1, hd⟩ : ∃ d r1 b1, rdBy 1024 xs b = (d, r1, b1) := ⟨_, _, _, rfl⟩
  rw [hd]
  dsimp only
  have HD := Lib.hid hd
  clear hd
  go_enter Tryz.func204, Tryz.ntmps204
  go_wp2_with fail
  refine (rBytes_any w gr gs v xs b hat (by omega) 1024 (by decide) (by decide)).mono ?_
  rintro e w2 ⟨r, rfl, hrow, hout⟩
  rw [HD.out] at hrow hout
  dsimp only at hrow hout
  have hk2 := hout.keptOf
  have hb2 := hk2.boxed hb (by rintro (h | h); exact h2 h; exact h1 h)
  have hc2 := hb2.cell
  have hf2 := hb2.frozen
  obtain ⟨A, n, c, rfl⟩ := owns_slice hrow
  have HR := Lib.hid hrow
  have HO := Lib.hid hout
  have HB2 := Lib.hid hb2
  clear hrow hout hk2 hat hb hb2
  go_wp2_with fail
  go_end0
  have k3 : Kept (fun j => j = gb) w2 (w2.setCell ⟨gb, 0, none⟩ (.slice A n c)) := (Kept.refl (fun j => j = gb) w2).setCell (p := ⟨gb, 0, none⟩) (fun _ => rfl) _
  exact ⟨rfl, ⟨A, n, c⟩, HB2.out.set _, k3.owns HR.out (fun j hj e => by have := (World.ownsRow.lt HR.out j hj).1; omega), (HO.out.toG).put k3 h1 h2 h3⟩
set_option maxHeartbeats 1000000 in
theorem treeRead_any (w : World) (gr gs gb : Nat) (v x : Value) (xs : List UInt8) (b : Bool) (hat : RdAt w gr gs v xs b) (hlen : xs.length ≤ 1000000) (hb : Boxed w gb 165 x) (h1 : gb ≠ gr) (h2 : gb ≠ gs) (h3 : ∀ j, v.ownBlock = some j → j ≠ gb) :
    Calls Tryz.prog 220 #[.pointer (some ⟨gb, 0, none⟩), .pointer (some ⟨gr, 0, none⟩)] w fun e W' => e = .returned (.tuple #[]) ∧ ∃ s : Sl, BoxTree W' gb s ∧ RowE eEn 70 W' w.heap.size s.v (bodyR 2 xs b).1.es ∧ RdG w gr gs gb v (bodyR 2 xs b).2.1 (bodyR 2 xs b).2.2 W' := by
  have hmf : ∀ (fn : Fn) (first cap : Array Value) (w : World), (Instr.makeFunc fn first cap).run Tryz.prog w = .ok (.func fn first cap) w := fun _ _ _ _ => rfl
  have hlt := hb.lt
  have hcall := rSevE_any w gr gs v xs b hat hlen 32 (by decide)
  obtain ⟨es, r1, b1, hd⟩ : ∃ es r1 b1, rdSevP rdEnP (rdNum 32 xs b).1 (rdNum 32 xs b).2.1 (rdNum 32 xs b).2.2 = (es, r1, b1) := ⟨_, _, _, rfl⟩
  have hbr : bodyR 2 xs b = (⟨2, [], es, zeroID, [], zeroLk, []⟩, r1, b1) := by
    unfold bodyR
    rw [if_neg (by decide), if_pos rfl]
    dsimp only
    rw [hd]
  rw [hd] at hcall
  rw [hbr]
  dsimp only at hcall ⊢
  have HC := Lib.hid hcall
  clear hcall hd hbr
  go_enter Tryz.func220, Tryz.ntmps220
  go_wp2_with fail
  refine HC.out.mono ?_
  rintro e w2 ⟨r, rfl, hrow, hout⟩
  have hk2 := hout.keptOf
  have hb2 := hk2.boxed hb (by rintro (h | h); exact h2 h; exact h1 h)
  have hc2 := hb2.cell
  have hf2 := hb2.frozen
  obtain ⟨A, n, c, rfl⟩ := owns_slice hrow
  have HR := Lib.hid hrow
  have HO := Lib.hid hout
  have HB2 := Lib.hid hb2
  clear hrow hout hk2 hat hb hb2
  go_wp2_with fail
  go_end0
  have k3 : Kept (fun j => j = gb) w2 (w2.setCell ⟨gb, 0, none⟩ (.slice A n c)) := (Kept.refl (fun j => j = gb) w2).setCell (p := ⟨gb, 0, none⟩) (fun _ => rfl) _
  exact ⟨rfl, ⟨A, n, c⟩, HB2.out.set _, k3.owns HR.out (fun j hj e => by have := (World.ownsRow.lt HR.out j hj).1; omega), (HO.out.toG).put k3 h1 h2 h3⟩
set_option maxHeartbeats 4000000 in
theorem commitRead_any (w : World) (gr gs gb : Nat) (v : Value) (x0 : Co) (xs : List UInt8) (b : Bool) (hat : RdAt w gr gs v xs b) (hlen : xs.length ≤ 1000000) (hb : BoxCo w gb x0) (h1 : gb ≠ gr) (h2 : gb ≠ gs) (h3 : ∀ j, v.ownBlock = some j → j ≠ gb) :
    Calls Tryz.prog 249 #[.pointer (some ⟨gb, 0, none⟩), .pointer (some ⟨gr, 0, none⟩)] w fun e W' => e = .returned (.tuple #[]) ∧ ∃ x : Co, BoxCo W' gb x ∧ x.tree = (bodyR 3 xs b).1.tree ∧ x.msg = (bodyR 3 xs b).1.msg ∧ RowI W' w.heap.size x.pv.v (bodyR 3 xs b).1.ps ∧ RdG w gr gs gb v (bodyR 3 xs b).2.1 (bodyR 3 xs b).2.2 W' := by
  have hmf : ∀ (fn : Fn) (first cap : Array Value) (w : World), (Instr.makeFunc fn first cap).run Tryz.prog w = .ok (.func fn first cap) w := fun _ _ _ _ => rfl
  have hlt := hb.lt
  have ht32 := rdIdP_length xs b
  have hl1 := rdIdP_left xs b
  obtain ⟨t, r1, b1, ht⟩ : ∃ t r1 b1, rdIdP xs b = (t, r1, b1) := ⟨_, _, _, rfl⟩
  have hl2 := rdSevP_left rdIdP_left (rdNum 4 r1 b1).1 (rdNum 4 r1 b1).2.1 (rdNum 4 r1 b1).2.2
  have hl3 := rdNum_left 4 r1 b1
  obtain ⟨ps, r2, b2, hp⟩ : ∃ ps r2 b2, rdSevP rdIdP (rdNum 4 r1 b1).1 (rdNum 4 r1 b1).2.1 (rdNum 4 r1 b1).2.2 = (ps, r2, b2) := ⟨_, _, _, rfl⟩
  obtain ⟨m, r3, b3, hm⟩ : ∃ m r3 b3, rdBy 200 r2 b2 = (m, r3, b3) := ⟨_, _, _, rfl⟩
  have hbr : bodyR 3 xs b = (⟨3, [], [], t, ps, zeroLk, m⟩, r3, b3) := by
    unfold bodyR
    rw [if_neg (by decide), if_neg (by decide), if_pos rfl]
    dsimp only
    rw [ht]
    dsimp only
    rw [hp]
    dsimp only
    rw [hm]
  rw [ht] at ht32 hl1
  rw [hp] at hl2
  dsimp only at ht32 hl1 hl2
  rw [hbr]
  dsimp only
  have HT := Lib.hid ht
  have HP := Lib.hid hp
  have HM := Lib.hid hm
  have HL1 := Lib.hid (show r1.length ≤ 1000000 by omega)
  have HL2 := Lib.hid (show r2.length ≤ 1000000 by omega)
  have hgr := hat.lt
  have hgs := hat.src.box.lt
  have HB := Lib.hid hb
  clear hbr ht hp hm hl1 hl2 hl3 hb
  go_enter Tryz.func249, Tryz.ntmps249
  go_wp2_with fail
  refine (rId_any w gr gs v xs b hat (by omega)).mono ?_
  rintro e w2 ⟨rfl, hout⟩
  rw [HT.out] at hout ⊢
  dsimp only at hout ⊢
  have hk2 := hout.keptOf
  have b2' : BoxCo w2 gb x0 := BoxE.kept HB.out hk2 (by rintro (h | h); exact h2 h; exact h1 h)
  have G2 := Lib.hid (hout.toG (gb := gb))
  clear hout hk2 hat HB
  go_wp2_with (refine wpList_store_partE (E := eCo) rfl (.tmp 8) (.tmp 6) rfl rfl b2' (t.map B8) rfl (sizeID ht32) (bs_oneCell t) (by rw [List.length_map, ht32]; decide) (co_tree _ t ht32) ?_; intro w3 b3' k3; replace b2' := b3')
  have G3 := Lib.hid (G2.out.put k3 h1 h2 h3)
  clear k3 G2
  obtain ⟨v3, hat3, hk3, hv3⟩ := G3.out
  have K3 := Lib.hid hk3
  have V3 := Lib.hid hv3
  clear hk3 hv3 b3' G3
  refine (rSevI_any w3 gr gs v3 r1 b1 hat3 HL1.out 4 (by decide)).mono ?_
  rintro e w4 ⟨r, rfl, hrow, hout⟩
  rw [HP.out] at hrow hout
  dsimp only at hrow hout
  have hk4 := hout.keptOf
  have b4' := BoxE.kept b2' hk4 (by rintro (h | h); exact h2 h; exact h1 h)
  have hsz3 := K3.out.size
  have hrow' : RowI w4 w.heap.size r ps := hrow.base hsz3
  obtain ⟨A, c, rfl, _⟩ := hrow'.slice
  have c1 := CoAt.pv b4'.at
  simp only [Nat.zero_add] at c1
  have hf1 := b4'.frozen 32
  have G4 := Lib.hid (RdG.thenOut K3.out V3.out hout)
  have HR := Lib.hid hrow'
  have B4 := Lib.hid b4'
  clear hout hk4 hrow hrow' hat3 b2' b4'
  go_wp2_with fail
  have b5 := BoxE.put B4.out (k := 32) (.slice A ps.length c) (co_pv _ ⟨A, ps.length, c⟩)
  have k5 : Kept (fun j => j = gb) w4 (w4.setCell ⟨gb, 32, none⟩ (.slice A ps.length c)) := (Kept.refl (fun j => j = gb) w4).setCell (p := ⟨gb, 32, none⟩) (fun _ => rfl) _
  have G5 := Lib.hid (G4.out.put k5 h1 h2 h3)
  have R5 := Lib.hid (show RowI (w4.setCell ⟨gb, 32, none⟩ (.slice A ps.length c)) w.heap.size (.slice A ps.length c) ps from ⟨HR.out.sized, k5.owns HR.out.own (fun j hj e => by have := (World.ownsRow.lt HR.out.own j hj).1; omega)⟩)
  clear k5 G4 HR c1 hf1 B4
  generalize w4.setCell ⟨gb, 32, none⟩ (.slice A ps.length c) = w5 at *
  obtain ⟨v5, hat5, hk5, hv5⟩ := G5.out
  have K5 := Lib.hid hk5
  have V5 := Lib.hid hv5
  clear hk5 hv5 G5
  refine (rdText_any w5 gr gs v5 r2 b2 hat5 (by have := HL2.out; omega) 200 (by decide) (by decide)).mono ?_
  rintro e w6 ⟨rfl, hout⟩
  rw [HM.out] at hout ⊢
  dsimp only at hout ⊢
  have hk6 := hout.keptOf
  have b6 := BoxE.kept b5 hk6 (by rintro (h | h); exact h2 h; exact h1 h)
  have R6 := Lib.hid (show RowI w6 w.heap.size (.slice A ps.length c) ps from ⟨R5.out.sized, hk6.owns R5.out.own (fun j hj => by
    have := (World.ownsRow.lt R5.out.own j hj).1
    rintro (e | e) <;> omega)⟩)
  have c2 := CoAt.msg b6.at
  simp only [Nat.zero_add] at c2
  have hf2 := b6.frozen 33
  have G6 := Lib.hid (RdG.thenOut K5.out V5.out hout)
  have B6 := Lib.hid b6
  clear hout hk6 hat5 b5 b6 R5
  go_wp2_with fail
  go_end0
  have b7 := BoxE.put B6.out (k := 33) (Str m) (co_msg _ m)
  have k7 : Kept (fun j => j = gb) w6 (w6.setCell ⟨gb, 33, none⟩ (Str m)) := (Kept.refl (fun j => j = gb) w6).setCell (p := ⟨gb, 33, none⟩) (fun _ => rfl) _
  exact ⟨rfl, _, b7, rfl, rfl, ⟨R6.out.sized, k7.owns R6.out.own (fun j hj e => by have := (World.ownsRow.lt R6.out.own j hj).1; omega)⟩, G6.out.put k7 h1 h2 h3⟩
set_option maxHeartbeats 4000000 in
theorem tagRead_any (w : World) (gr gs gb : Nat) (v : Value) (x0 : Tg) (xs : List UInt8) (b : Bool) (hat : RdAt w gr gs v xs b) (hlen : xs.length ≤ 1000000) (hb : BoxTg w gb x0) (h1 : gb ≠ gr) (h2 : gb ≠ gs) (h3 : ∀ j, v.ownBlock = some j → j ≠ gb) :
    Calls Tryz.prog 257 #[.pointer (some ⟨gb, 0, none⟩), .pointer (some ⟨gr, 0, none⟩)] w fun e W' => e = .returned (.tuple #[]) ∧ ∃ x : Tg, BoxTg W' gb x ∧ x.tg = (bodyR 4 xs b).1.tg ∧ x.msg = (bodyR 4 xs b).1.msg ∧ RdG w gr gs gb v (bodyR 4 xs b).2.1 (bodyR 4 xs b).2.2 W' := by
  have hlt := hb.lt
  have hl1 := rdNum_left 4 xs b
  obtain ⟨kd, r1, b1, ht⟩ : ∃ kd r1 b1, rdNum 4 xs b = (kd, r1, b1) := ⟨_, _, _, rfl⟩
  have ht32 := rdIdP_length r1 b1
  have hl2 := rdIdP_left r1 b1
  obtain ⟨t, r2, b2, hp⟩ : ∃ t r2 b2, rdIdP r1 b1 = (t, r2, b2) := ⟨_, _, _, rfl⟩
  obtain ⟨m, r3, b3, hm⟩ : ∃ m r3 b3, rdBy 200 r2 b2 = (m, r3, b3) := ⟨_, _, _, rfl⟩
  rw [ht] at hl1
  rw [hp] at ht32 hl2
  dsimp only at ht32 hl1 hl2
  have hbr : bodyR 4 xs b = (⟨4, [], [], zeroID, [], ⟨(kd : Int), t, ht32⟩, m⟩, r3, b3) := by
    unfold bodyR
    rw [if_neg (by decide), if_neg (by decide), if_neg (by decide)]
    simp only [ht, hp, hm]
  rw [hbr]
  dsimp only
  have HT := Lib.hid ht
  have HP := Lib.hid hp
  have HM := Lib.hid hm
  have HL1 := Lib.hid (show r1.length ≤ 1000000 by omega)
  have HL2 := Lib.hid (show r2.length ≤ 1000000 by omega)
  have HB := Lib.hid hb
  clear hbr ht hp hm hl1 hl2 hb
  go_enter Tryz.func257, Tryz.ntmps257
  go_wp2_with fail
  refine (rKind_any w gr gs v xs b hat (by omega)).mono ?_
  rintro e w2 ⟨rfl, hout⟩
  rw [HT.out] at hout ⊢
  dsimp only at hout ⊢
  have hk2 := hout.keptOf
  have b2' : BoxTg w2 gb x0 := BoxE.kept HB.out hk2 (by rintro (h | h); exact h2 h; exact h1 h)
  have c0 : w2.cell? ⟨gb, 0, none⟩ = some (.int .i64 x0.tg.kd) := LkAt.kd (TgAt.tg b2'.at)
  have hf0 := b2'.frozen 0
  have G2 := Lib.hid (hout.toG (gb := gb))
  have B2 := Lib.hid b2'
  clear hout hk2 hat HB b2'
  go_wp2_with fail
  have b3' := BoxE.put B2.out (k := 0) (.int .i64 (kd : Int)) (tg_kd _ (kd : Int))
  have k3 : Kept (fun j => j = gb) w2 (w2.setCell ⟨gb, 0, none⟩ (.int .i64 (kd : Int))) := (Kept.refl (fun j => j = gb) w2).setCell (p := ⟨gb, 0, none⟩) (fun _ => rfl) _
  have G3 := Lib.hid (G2.out.put k3 h1 h2 h3)
  clear k3 G2 c0 hf0 B2
  generalize w2.setCell ⟨gb, 0, none⟩ (.int .i64 (kd : Int)) = w3 at *
  obtain ⟨v3, hat3, hk3, hv3⟩ := G3.out
  have K3 := Lib.hid hk3
  have V3 := Lib.hid hv3
  clear hk3 hv3 G3
  refine (rId_any w3 gr gs v3 r1 b1 hat3 (by have := HL1.out; omega)).mono ?_
  rintro e w4 ⟨rfl, hout⟩
  rw [HP.out] at hout ⊢
  dsimp only at hout ⊢
  have hk4 := hout.keptOf
  have b4' := BoxE.kept b3' hk4 (by rintro (h | h); exact h2 h; exact h1 h)
  have G4 := Lib.hid (RdG.thenOut K3.out V3.out hout)
  clear hout hk4 hat3 b3'
  go_wp2_with (refine wpList_store_partE (E := eTg) rfl (.tmp 15) (.tmp 12) rfl rfl b4' (t.map B8) rfl (sizeID ht32) (bs_oneCell t) (by rw [List.length_map, ht32]; decide) (tg_id _ t ht32) ?_; intro w5 b5 k5)
  have G5 := Lib.hid (G4.out.put k5 h1 h2 h3)
  clear k5 G4 b4'
  obtain ⟨v5, hat5, hk5, hv5⟩ := G5.out
  have K5 := Lib.hid hk5
  have V5 := Lib.hid hv5
  clear hk5 hv5 G5
  refine (rdText_any w5 gr gs v5 r2 b2 hat5 (by have := HL2.out; omega) 200 (by decide) (by decide)).mono ?_
  rintro e w6 ⟨rfl, hout⟩
  rw [HM.out] at hout ⊢
  dsimp only at hout ⊢
  have hk6 := hout.keptOf
  have b6 := BoxE.kept b5 hk6 (by rintro (h | h); exact h2 h; exact h1 h)
  have c2 := TgAt.msg b6.at
  simp only [Nat.zero_add] at c2
  have hf2 := b6.frozen 33
  have G6 := Lib.hid (RdG.thenOut K5.out V5.out hout)
  have B6 := Lib.hid b6
  clear hout hk6 hat5 b5 b6
  go_wp2_with fail
  go_end0
  have b7 := BoxE.put B6.out (k := 33) (Str m) (tg_msg _ m)
  have k7 : Kept (fun j => j = gb) w6 (w6.setCell ⟨gb, 33, none⟩ (Str m)) := (Kept.refl (fun j => j = gb) w6).setCell (p := ⟨gb, 33, none⟩) (fun _ => rfl) _
  exact ⟨rfl, _, b7, rfl, rfl, G6.out.put k7 h1 h2 h3⟩
end Go.Proofs.YtljihmbmjpcfaaaGreat
