/- Decode of vectors: the program's and the reference's (tools/gencode.py). -/
import Derived.Test.YtbkbogblbniogaaVecEnc
import Derived.Test.YtbkbogblbniogaaLebReadB
import Derived.Test.YtbkbogblbniogaaLebRefNum
namespace Go.Proofs.Ytbkbogblbniogaa
open Go.RowKit Go.Great
set_option maxRecDepth 100000

theorem vecNum_any (w : World) (g : Nat) (v : Value) (xs : List UInt8) (hat : SourceAt w g v xs) (hlen : xs.length ≤ 140737488355328) (most : Nat) :
    Calls Try.prog 51 #[.pointer (some ⟨g, 0, none⟩), .int .u64 most] w (NumOut w g v (nmB most xs)) := SrcNumber_any w g v xs hat hlen most
theorem vecRefNum_any (w : World) (g : Nat) (v : Value) (xs : List UInt8) (hat : RefAt w g v xs) (hlen : xs.length ≤ 140737488355328) (most : Nat) :
    Calls Try.prog 53 #[.pointer (some ⟨g, 0, none⟩), .int .u64 most] w (RefNumOut w g v (nmB most xs)) := by
  have := refNumber_any w g v xs hat hlen most
  first | exact this | (rw [refNum_eq] at this; exact this)
theorem readN_zero0 (i : Nat) (v : Vc) (xs : List UInt8) : readN 0 i v xs = (0, v, xs) := rfl
theorem readN_more {f i : Nat} {v : Vc} {xs ys : List UInt8} {m : Nat} (h : nmB 4294967295 xs = (0, m, ys)) : readN (f + 1) i v xs = readN f (i + 1) (setV v i (UInt32.ofNat m)) ys := by
  rw [readN, h]
  rfl
theorem readN_stop {f i : Nat} {v : Vc} {xs ys : List UInt8} {m : Nat} {e : Int} (h : nmB 4294967295 xs = (e, m, ys)) (he : e ≠ 0) : readN (f + 1) i v xs = (e, zeroV, ys) := by
  rw [readN, h]
  simp only
  rw [if_neg he]
theorem decV_stop {xs ys : List UInt8} {m : Nat} {e : Int} (h : nmB 16 xs = (e, m, ys)) (he : e ≠ 0) : decV xs = (e, zeroV, ys) := by
  unfold decV
  rw [h]
  simp only
  rw [if_neg he]
theorem decV_more {xs ys : List UInt8} {n : Nat} (h : nmB 16 xs = (0, n, ys)) : decV xs = if (readN n 0 zeroV ys).1 = 0 then (if countN (readN n 0 zeroV ys).2.1 16 = n then readN n 0 zeroV ys else (62, zeroV, (readN n 0 zeroV ys).2.2)) else readN n 0 zeroV ys := by
  unfold decV
  rw [h]
  rfl
theorem w32_of {m : Nat} (h : m ≤ 4294967295) : W32 (UInt32.ofNat m) = .int .u32 (m : Int) := by
  unfold W32
  rw [UInt32.toNat_ofNat', Nat.mod_eq_of_lt (by omega)]

set_option maxHeartbeats 2000000 in
theorem pVDecode_form (w : World) (g : Nat) (v : Value) (xs : List UInt8) (hat : SourceAt w g v xs) (hlen : xs.length ≤ 140737488355328) (de : Int) (dv : Vc) (dr : List UInt8) (hD : decV xs = (de, dv, dr)) :
    Calls Try.prog 29 #[.pointer (some ⟨g, 0, none⟩)] w fun e W' => e = .returned (.tuple #[VecV dv, .int .i64 de]) ∧ SourceRead w g v dr W' := by
  have HD := Lib.hid hD
  clear hD
  have hg := hat.box.lt
  have hv : ∀ j, v.ownBlock = some j → j < w.heap.size := fun j hj => (hat.row j hj).1
  have k0 : Kept (fun j => j = g) w (w.alloc (.cells (encC zeroV).toArray 24)) := (Kept.refl _ w).alloc _
  have hat0 : SourceAt (w.alloc (.cells (encC zeroV).toArray 24)) g v xs := hat.kept (T := fun _ => False) ((Kept.refl _ w).alloc _) (fun h => h) (fun _ _ h => h)
  have b0 := BoxV.new w zeroV
  obtain ⟨e1, n, ys, hn⟩ : ∃ a b c, nmB 16 xs = (a, b, c) := ⟨_, _, _, rfl⟩
  have hle : e1 = 0 → n ≤ 16 := by have := nmB_le (most := 16) (xs := xs); rw [hn] at this; exact this
  have hl1 : ys.length ≤ xs.length := by have := nmB_left 16 xs; rw [hn] at this; exact this
  have c1 : ∀ W v', SourceAt W g v' xs → Calls Try.prog 51 #[.pointer (some ⟨g, 0, none⟩), .int .u64 16] W fun e W' => e = .returned (.tuple #[.int .u64 (n : Int), .int .i64 e1]) ∧ SourceRead W g v' ys W' := fun W v' h => by have := vecNum_any W g v' xs h hlen 16; rw [hn] at this; exact this
  have HN := Lib.hid hn
  clear hn hat
  by_cases h1 : e1 = 0
  case neg =>
    have hd := HD.out
    rw [decV_stop HN.out h1] at hd
    injection hd with d1 hd
    injection hd with d2 d3
    subst d1 d2 d3
    have h1' : (e1 != 0) = true := by simpa using h1
    clear HD HN hle h1
    go_enter Try.func29, Try.ntmps29
    go_wp2_with (refine wpList_alloc_vec rfl rfl ?_)
    refine (c1 _ v hat0).mono ?_
    rintro e w1 ⟨rfl, v1, hat1, k1, hv1⟩
    have hb := b0.kept k1 (fun h => by have : w.heap.size = g := h; omega)
    have K1 := k0.same k1
    clear k0 k1 b0 hat0 c1
    go_wp2_with (first
      | (refine wpList_build_vec rfl rfl ?_)
      | (refine wpList_store_vec rfl (.tmp 2) (.tmp 18) rfl rfl hb rfl ?_; intro w9 b9 k9))
    refine bodyPost_ret (results_vec2 rfl _ rfl b9) rfl ?_
    exact ⟨rfl, v1, hat1.kept k9 (fun h => by have : g = w.heap.size := h; omega) (fun j hj h => by have h2 : j = w.heap.size := h; have := hv j (hv1 ▸ hj); omega), K1.trans k9 (fun j hj h => by have : j = w.heap.size := h; omega), hv1⟩
  subst h1
  have hn16 := hle rfl
  have HM := Lib.hid (decV_more HN.out)
  obtain ⟨R, hR⟩ : ∃ R, R = readN n 0 zeroV ys := ⟨_, rfl⟩
  rw [← hR] at HM
  have HR := Lib.hid hR
  clear hR hle HN
  have n1 : IntKind.i64.wrap (n : Int) = n := IntWalk.i64_in _ (by omega)
  go_enter Try.func29, Try.ntmps29
  go_wp2_with (refine wpList_alloc_vec rfl rfl ?_)
  refine (c1 _ v hat0).mono ?_
  rintro e w1 ⟨rfl, v1, hat1, k1, hv1⟩
  have hb := b0.kept k1 (fun h => by have : w.heap.size = g := h; omega)
  have K1 := k0.same k1
  have hs1 : w.heap.size < w1.heap.size := hb.lt
  have hkA : Kept (fun _ => False) w1 (w1.alloc (.cells (encC zeroV).toArray 24)) := (Kept.refl _ w1).alloc _
  have HA := Lib.hid (hat1.kept hkA (fun h => h) (fun _ _ h => h))
  have hbA := hb.kept hkA (fun h => h)
  have K1A : Kept (fun j => j = g) w (w1.alloc (.cells (encC zeroV).toArray 24)) := K1.alloc _
  have b6 := BoxV.new w1 zeroV
  clear k0 k1 b0 hat0 c1 hat1 hkA hb K1
  have b6' := b6
  have hbA' := hbA
  have K1A' := K1A
  clear b6 hbA K1A
  go_wp2_with (refine wpList_alloc_vec rfl rfl ?_)
  go_loopw [23] (fun i wr => ∃ (k : Nat) (u : Vc) (zs : List UInt8) (sv : Value), k ≤ n ∧ i = .int .i64 k ∧ SourceAt wr g sv zs ∧ BoxV wr w1.heap.size u ∧ BoxV wr w.heap.size zeroV ∧ Kept (fun j => j = g) w wr ∧ sv.ownBlock = v.ownBlock ∧ readN (n - k) k u zs = R ∧ zs.length ≤ xs.length) (fun i _ => n - (intOf i).toNat)
  case atStart => exact ⟨0, zeroV, ys, v1, by omega, rfl, HA.out, b6', hbA', K1A', hv1, HR.out.symm, hl1⟩
  case round =>
    obtain ⟨k, u, zs, sv, hk, rfl, hat, hu, hz, hK, hsv, hrd, hzl⟩ := hrel
    have HRD := Lib.hid hrd
    clear hrd
    have hs1r : w1.heap.size < wr.heap.size := hu.lt
    by_cases hlt : k < n
    case pos =>
      obtain ⟨e2, m, zs2, hm⟩ : ∃ a b c, nmB 4294967295 zs = (a, b, c) := ⟨_, _, _, rfl⟩
      have hle2 : e2 = 0 → m ≤ 4294967295 := by have := nmB_le (most := 4294967295) (xs := zs); rw [hm] at this; exact this
      have hl2 : zs2.length ≤ zs.length := by have := nmB_left 4294967295 zs; rw [hm] at this; exact this
      have c2 : Calls Try.prog 51 #[.pointer (some ⟨g, 0, none⟩), .int .u64 4294967295] wr fun e W' => e = .returned (.tuple #[.int .u64 (m : Int), .int .i64 e2]) ∧ SourceRead wr g sv zs2 W' := by have := vecNum_any wr g sv zs hat (by omega) 4294967295; rw [hm] at this; exact this
      have HMM := Lib.hid hm
      have hlt' : (k : Int) < (n : Int) := by omega
      have hk16 : (k : Int) < 16 := by omega
      have hk0 : (0 : Int) ≤ (k : Int) := by omega
      obtain ⟨f, hf⟩ : ∃ f, n - k = f + 1 := ⟨n - k - 1, by omega⟩
      clear hm hat
      by_cases he2 : e2 = 0
      case neg =>
        have hd := HD.out
        rw [HM.out] at hd
        have hRR := HRD.out
        rw [hf, readN_stop HMM.out he2] at hRR
        rw [← hRR] at hd
        simp only at hd
        rw [if_neg he2] at hd
        injection hd with d1 hd
        injection hd with d2 d3
        have D1 := Lib.hid d1
        have D2 := Lib.hid d2
        have D3 := Lib.hid d3
        have he2' : (e2 != 0) = true := by simpa using he2
        clear hRR hf HMM hle2 HRD HR HM HD he2 d1 d2 d3
        go_wp2_with fail
        refine c2.mono ?_
        rintro e w2 ⟨rfl, v2, hat2, k2, hv2⟩
        have hb2 := hz.kept k2 (fun h => by have : w.heap.size = g := h; omega)
        have K2 := hK.same k2
        have hv2' := hv2.trans hsv
        clear k2 c2
        go_wp2_with (first
          | (refine wpList_build_vec rfl rfl ?_)
          | (refine wpList_store_vec rfl (.tmp 2) (.tmp 33) rfl rfl hb2 rfl ?_; intro w9 b9 k9))
        refine bodyPost_ret (results_vec2 rfl _ rfl b9) rfl ?_
        refine ⟨by rw [← D1.out, ← D2.out]; rfl, ?_⟩
        rw [← D3.out]
        exact ⟨v2, hat2.kept k9 (fun h => by have : g = w.heap.size := h; omega) (fun j hj h => by have h2 : j = w.heap.size := h; have := hv j (hv2' ▸ hj); omega), K2.trans k9 (fun j hj h => by have : j = w.heap.size := h; omega), hv2'⟩
      case pos =>
        subst he2
        have hm32 := hle2 rfl
        have hRR := HRD.out
        rw [hf, readN_more HMM.out] at hRR
        have HRN := Lib.hid (show readN (n - (k + 1)) (k + 1) (setV u k (UInt32.ofNat m)) zs2 = R by rw [show n - (k + 1) = f by omega]; exact hRR)
        have n2 : IntKind.u32.wrap (m : Int) = m := IntWalk.u32_in _ (by omega)
        have HW := Lib.hid (w32_of hm32)
        clear hRR hf HMM hle2 HRD
        go_wp2_with fail
        refine c2.mono ?_
        rintro e w2 ⟨rfl, v2, hat2, k2, hv2⟩
        have hb2 := hz.kept k2 (fun h => by have : w.heap.size = g := h; omega)
        have hu2 := hu.kept k2 (fun h => by have : w1.heap.size = g := h; omega)
        have K2 := hK.same k2
        have hv2' := hv2.trans hsv
        have x1 := hu2.cell (show k < 16 by omega)
        have x2 := hu2.frozen k
        have hput := hu2.put (k := k) (UInt32.ofNat m)
        rw [HW.out] at hput
        have hk9 : Kept (fun j => j = w1.heap.size) w2 (w2.setCell ⟨w1.heap.size, k, none⟩ (.int .u32 (m : Int))) := (Kept.refl (fun j => j = w1.heap.size) w2).setCell (T := fun j => j = w1.heap.size) (p := ⟨w1.heap.size, k, none⟩) (fun _ => rfl) _
        have H2 := Lib.hid (hat2.kept hk9 (fun h => by have : g = w1.heap.size := h; omega) (fun j hj h => by have h2 : j = w1.heap.size := h; have := hv j (hv2' ▸ hj); omega))
        have hb9 := hb2.kept hk9 (fun h => by have : w.heap.size = w1.heap.size := h; omega)
        have K9 := K2.trans hk9 (fun j hj h => by have : j = w1.heap.size := h; omega)
        clear k2 c2 hat2 hu2 hb2 K2 hk9 HW
        go_wp2_with fail
        go_roundw
        case rel => exact ⟨k + 1, setV u k (UInt32.ofNat m), zs2, v2, by omega, by go_num, H2.out, hput, hb9, K9, hv2', HRN.out, by omega⟩
        case measure => simp [intOf]; omega
    case neg =>
      obtain rfl : k = n := by omega
      have hRR := HRD.out
      rw [Nat.sub_self, readN_zero0] at hRR
      have hd := HD.out
      rw [HM.out, ← hRR] at hd
      simp only [if_true] at hd
      have Hd := Lib.hid hd
      have H2 := Lib.hid hat
      have HZ := Lib.hid (show ∀ m, k ≤ m → atV u m = 0 from fun m hm => by
        have := readN_zero k 0 zeroV ys (by omega) (fun n _ => atV_zero n) m (by omega)
        rw [← HR.out, ← hRR] at this
        exact this)
      clear hRR HRD HR HM HD hd hat
      by_cases hcnt : countN u 16 = k
      case neg =>
        have hd := Hd.out
        rw [if_neg hcnt] at hd
        injection hd with d1 hd
        injection hd with d2 d3
        have D1 := Lib.hid d1
        have D2 := Lib.hid d2
        have D3 := Lib.hid d3
        have hc2 : ¬ (countN u 16 : Int) = (k : Int) := by omega
        have c3 := fun W => pVSites_any W u
        generalize countN u 16 = q at *
        clear Hd d1 d2 d3 hcnt
        go_wp2_with (refine wpList_load_vec rfl (.tmp 6) rfl rfl hu.at ?_)
        refine (c3 _).mono ?_
        rintro e w2 ⟨rfl, hb3⟩
        have k3 : Kept (fun _ => False) wr w2 := Kept.of_below hb3 (Nat.le_refl _) _
        have H3 := Lib.hid (H2.out.kept k3 (fun h => h) (fun _ _ h => h))
        have hz3 := hz.kept k3 (fun h => h)
        have K3 := hK.trans k3 (fun _ _ h => h.elim)
        clear k3 hb3 c3 H2
        go_wp2_with (first
          | (refine wpList_build_vec rfl rfl ?_)
          | (refine wpList_store_vec rfl (.tmp 2) (.tmp 44) rfl rfl hz3 rfl ?_; intro w9 b9 k9))
        refine bodyPost_ret (results_vec2 rfl _ rfl b9) rfl ?_
        refine ⟨by rw [← D1.out, ← D2.out]; rfl, ?_⟩
        rw [← D3.out]
        exact ⟨sv, H3.out.kept k9 (fun h => by have : g = w.heap.size := h; omega) (fun j hj h => by have h2 : j = w.heap.size := h; have := hv j (hsv ▸ hj); omega), K3.trans k9 (fun j hj h => by have : j = w.heap.size := h; omega), hsv⟩
      case pos =>
        have hd := Hd.out
        rw [if_pos hcnt] at hd
        injection hd with d1 hd
        injection hd with d2 d3
        have D1 := Lib.hid d1
        have D2 := Lib.hid d2
        have D3 := Lib.hid d3
        have c3 := fun W => pVSites_any W u
        rw [hcnt] at c3
        clear Hd d1 d2 d3 hcnt
        go_wp2_with (refine wpList_load_vec rfl (.tmp 6) rfl rfl hu.at ?_)
        refine (c3 _).mono ?_
        rintro e w2 ⟨rfl, hb3⟩
        have k3 : Kept (fun _ => False) wr w2 := Kept.of_below hb3 (Nat.le_refl _) _
        have H3 := Lib.hid (H2.out.kept k3 (fun h => h) (fun _ _ h => h))
        have hz3 := hz.kept k3 (fun h => h)
        have hu3 := hu.kept k3 (fun h => h)
        have K3 := hK.trans k3 (fun _ _ h => h.elim)
        clear k3 hb3 c3 H2
        go_wp2_with (first
          | (refine wpList_load_vec rfl (.tmp 6) rfl rfl hu3.at ?_)
          | (refine wpList_store_vec rfl (.tmp 2) (.tmp 45) rfl rfl hz3 rfl ?_; intro w9 b9 k9))
        refine bodyPost_ret (results_vec2 rfl _ rfl b9) rfl ?_
        refine ⟨by rw [← D1.out, ← D2.out]; rfl, ?_⟩
        rw [← D3.out]
        exact ⟨sv, H3.out.kept k9 (fun h => by have : g = w.heap.size := h; omega) (fun j hj h => by have h2 : j = w.heap.size := h; have := hv j (hsv ▸ hj); omega), K3.trans k9 (fun j hj h => by have : j = w.heap.size := h; omega), hsv⟩
theorem pVDecode_any (w : World) (g : Nat) (v : Value) (xs : List UInt8) (hat : SourceAt w g v xs) (hlen : xs.length ≤ 140737488355328) :
    Calls Try.prog 29 #[.pointer (some ⟨g, 0, none⟩)] w fun e W' => e = .returned (.tuple #[VecV (decV xs).2.1, .int .i64 (decV xs).1]) ∧ SourceRead w g v (decV xs).2.2 W' :=
  pVDecode_form w g v xs hat hlen _ _ _ rfl

set_option maxHeartbeats 2000000 in
theorem r6Decode_form (w : World) (g : Nat) (v : Value) (xs : List UInt8) (hat : RefAt w g v xs) (hlen : xs.length ≤ 140737488355328) (de : Int) (dv : Vc) (dr : List UInt8) (hD : decV xs = (de, dv, dr)) :
    Calls Try.prog 30 #[.pointer (some ⟨g, 0, none⟩)] w fun e W' => e = .returned (.tuple #[VecV dv, .int .i64 de]) ∧ RefRead w g v dr W' := by
  have HD := Lib.hid hD
  clear hD
  have hg := hat.box.lt
  have hv : ∀ j, v.ownBlock = some j → j < w.heap.size := fun j hj => (hat.row j hj).1
  have k0 : Kept (fun j => j = g) w (w.alloc (.cells (encC zeroV).toArray 24)) := (Kept.refl _ w).alloc _
  have hat0 : RefAt (w.alloc (.cells (encC zeroV).toArray 24)) g v xs := hat.kept (T := fun _ => False) ((Kept.refl _ w).alloc _) (fun h => h) (fun _ _ h => h)
  have b0 := BoxV.new w zeroV
  obtain ⟨e1, n, ys, hn⟩ : ∃ a b c, nmB 16 xs = (a, b, c) := ⟨_, _, _, rfl⟩
  have hle : e1 = 0 → n ≤ 16 := by have := nmB_le (most := 16) (xs := xs); rw [hn] at this; exact this
  have hl1 : ys.length ≤ xs.length := by have := nmB_left 16 xs; rw [hn] at this; exact this
  have c1 : ∀ W v', RefAt W g v' xs → Calls Try.prog 53 #[.pointer (some ⟨g, 0, none⟩), .int .u64 16] W fun e W' => e = .returned (.tuple #[.int .u64 (n : Int), .int .i64 e1]) ∧ RefRead W g v' ys W' := fun W v' h => by have := vecRefNum_any W g v' xs h hlen 16; rw [hn] at this; exact this
  have HN := Lib.hid hn
  clear hn hat
  by_cases h1 : e1 = 0
  case neg =>
    have hd := HD.out
    rw [decV_stop HN.out h1] at hd
    injection hd with d1 hd
    injection hd with d2 d3
    subst d1 d2 d3
    have h1' : (e1 != 0) = true := by simpa using h1
    clear HD HN hle h1
    go_enter Try.func30, Try.ntmps30
    go_wp2_with (refine wpList_alloc_vec rfl rfl ?_)
    refine (c1 _ v hat0).mono ?_
    rintro e w1 ⟨rfl, v1, hat1, k1, hv1⟩
    have hb := b0.kept k1 (fun h => by have : w.heap.size = g := h; omega)
    have K1 := k0.same k1
    clear k0 k1 b0 hat0 c1
    go_wp2_with (first
      | (refine wpList_build_vec rfl rfl ?_)
      | (refine wpList_store_vec rfl (.tmp 2) (.tmp 17) rfl rfl hb rfl ?_; intro w9 b9 k9))
    refine bodyPost_ret (results_vec2 rfl _ rfl b9) rfl ?_
    exact ⟨rfl, v1, hat1.kept k9 (fun h => by have : g = w.heap.size := h; omega) (fun j hj h => by have h2 : j = w.heap.size := h; have := hv j (hv1 ▸ hj); omega), K1.trans k9 (fun j hj h => by have : j = w.heap.size := h; omega), hv1⟩
  subst h1
  have hn16 := hle rfl
  have HM := Lib.hid (decV_more HN.out)
  obtain ⟨R, hR⟩ : ∃ R, R = readN n 0 zeroV ys := ⟨_, rfl⟩
  rw [← hR] at HM
  have HR := Lib.hid hR
  clear hR hle HN
  have n1 : IntKind.i64.wrap (n : Int) = n := IntWalk.i64_in _ (by omega)
  go_enter Try.func30, Try.ntmps30
  go_wp2_with (refine wpList_alloc_vec rfl rfl ?_)
  refine (c1 _ v hat0).mono ?_
  rintro e w1 ⟨rfl, v1, hat1, k1, hv1⟩
  have hb := b0.kept k1 (fun h => by have : w.heap.size = g := h; omega)
  have K1 := k0.same k1
  have hs1 : w.heap.size < w1.heap.size := hb.lt
  have hkA : Kept (fun _ => False) w1 (w1.alloc (.cells (encC zeroV).toArray 24)) := (Kept.refl _ w1).alloc _
  have HA := Lib.hid (hat1.kept hkA (fun h => h) (fun _ _ h => h))
  have hbA := hb.kept hkA (fun h => h)
  have K1A : Kept (fun j => j = g) w (w1.alloc (.cells (encC zeroV).toArray 24)) := K1.alloc _
  have b6 := BoxV.new w1 zeroV
  clear k0 k1 b0 hat0 c1 hat1 hkA hb K1
  go_wp2_with (first
    | (refine wpList_alloc_vec rfl rfl ?_)
    | (refine wpList_build_vec rfl rfl ?_)
    | (refine wpList_store_vec rfl (.tmp 6) (.tmp 19) rfl rfl b6 rfl ?_; intro wq b6' kq))
  have hbA' := hbA.kept kq (fun h => by have : w.heap.size = w1.heap.size := h; omega)
  have K1A' := K1A.trans kq (fun j hj h => by have : j = w1.heap.size := h; omega)
  replace HA := Lib.hid (HA.out.kept kq (fun h => by have : g = w1.heap.size := h; omega) (fun j hj h => by have h2 : j = w1.heap.size := h; have := hv j (hv1 ▸ hj); omega))
  clear kq b6 hbA K1A
  go_loopw [7] (fun i wr => ∃ (k : Nat) (u : Vc) (zs : List UInt8) (sv : Value), k ≤ n ∧ i = .int .i64 k ∧ RefAt wr g sv zs ∧ BoxV wr w1.heap.size u ∧ BoxV wr w.heap.size zeroV ∧ Kept (fun j => j = g) w wr ∧ sv.ownBlock = v.ownBlock ∧ readN (n - k) k u zs = R ∧ zs.length ≤ xs.length) (fun i _ => n - (intOf i).toNat)
  case atStart => exact ⟨0, zeroV, ys, v1, by omega, rfl, HA.out, b6', hbA', K1A', hv1, HR.out.symm, hl1⟩
  case round =>
    obtain ⟨k, u, zs, sv, hk, rfl, hat, hu, hz, hK, hsv, hrd, hzl⟩ := hrel
    have HRD := Lib.hid hrd
    clear hrd
    have hs1r : w1.heap.size < wr.heap.size := hu.lt
    by_cases hlt : k < n
    case pos =>
      obtain ⟨e2, m, zs2, hm⟩ : ∃ a b c, nmB 4294967295 zs = (a, b, c) := ⟨_, _, _, rfl⟩
      have hle2 : e2 = 0 → m ≤ 4294967295 := by have := nmB_le (most := 4294967295) (xs := zs); rw [hm] at this; exact this
      have hl2 : zs2.length ≤ zs.length := by have := nmB_left 4294967295 zs; rw [hm] at this; exact this
      have c2 : Calls Try.prog 53 #[.pointer (some ⟨g, 0, none⟩), .int .u64 4294967295] wr fun e W' => e = .returned (.tuple #[.int .u64 (m : Int), .int .i64 e2]) ∧ RefRead wr g sv zs2 W' := by have := vecRefNum_any wr g sv zs hat (by omega) 4294967295; rw [hm] at this; exact this
      have HMM := Lib.hid hm
      have hlt' : (k : Int) < (n : Int) := by omega
      have hk16 : (k : Int) < 16 := by omega
      have hk0 : (0 : Int) ≤ (k : Int) := by omega
      obtain ⟨f, hf⟩ : ∃ f, n - k = f + 1 := ⟨n - k - 1, by omega⟩
      clear hm hat
      by_cases he2 : e2 = 0
      case neg =>
        have hd := HD.out
        rw [HM.out] at hd
        have hRR := HRD.out
        rw [hf, readN_stop HMM.out he2] at hRR
        rw [← hRR] at hd
        simp only at hd
        rw [if_neg he2] at hd
        injection hd with d1 hd
        injection hd with d2 d3
        have D1 := Lib.hid d1
        have D2 := Lib.hid d2
        have D3 := Lib.hid d3
        have he2' : (e2 != 0) = true := by simpa using he2
        clear hRR hf HMM hle2 HRD HR HM HD he2 d1 d2 d3
        go_wp2_with fail
        refine c2.mono ?_
        rintro e w2 ⟨rfl, v2, hat2, k2, hv2⟩
        have hb2 := hz.kept k2 (fun h => by have : w.heap.size = g := h; omega)
        have K2 := hK.same k2
        have hv2' := hv2.trans hsv
        clear k2 c2
        go_wp2_with (first
          | (refine wpList_build_vec rfl rfl ?_)
          | (refine wpList_store_vec rfl (.tmp 2) (.tmp 33) rfl rfl hb2 rfl ?_; intro w9 b9 k9))
        refine bodyPost_ret (results_vec2 rfl _ rfl b9) rfl ?_
        refine ⟨by rw [← D1.out, ← D2.out]; rfl, ?_⟩
        rw [← D3.out]
        exact ⟨v2, hat2.kept k9 (fun h => by have : g = w.heap.size := h; omega) (fun j hj h => by have h2 : j = w.heap.size := h; have := hv j (hv2' ▸ hj); omega), K2.trans k9 (fun j hj h => by have : j = w.heap.size := h; omega), hv2'⟩
      case pos =>
        subst he2
        have hm32 := hle2 rfl
        have hRR := HRD.out
        rw [hf, readN_more HMM.out] at hRR
        have HRN := Lib.hid (show readN (n - (k + 1)) (k + 1) (setV u k (UInt32.ofNat m)) zs2 = R by rw [show n - (k + 1) = f by omega]; exact hRR)
        have n2 : IntKind.u32.wrap (m : Int) = m := IntWalk.u32_in _ (by omega)
        have HW := Lib.hid (w32_of hm32)
        clear hRR hf HMM hle2 HRD
        go_wp2_with fail
        refine c2.mono ?_
        rintro e w2 ⟨rfl, v2, hat2, k2, hv2⟩
        have hb2 := hz.kept k2 (fun h => by have : w.heap.size = g := h; omega)
        have hu2 := hu.kept k2 (fun h => by have : w1.heap.size = g := h; omega)
        have K2 := hK.same k2
        have hv2' := hv2.trans hsv
        have x1 := hu2.cell (show k < 16 by omega)
        have x2 := hu2.frozen k
        have hput := hu2.put (k := k) (UInt32.ofNat m)
        rw [HW.out] at hput
        have hk9 : Kept (fun j => j = w1.heap.size) w2 (w2.setCell ⟨w1.heap.size, k, none⟩ (.int .u32 (m : Int))) := (Kept.refl (fun j => j = w1.heap.size) w2).setCell (T := fun j => j = w1.heap.size) (p := ⟨w1.heap.size, k, none⟩) (fun _ => rfl) _
        have H2 := Lib.hid (hat2.kept hk9 (fun h => by have : g = w1.heap.size := h; omega) (fun j hj h => by have h2 : j = w1.heap.size := h; have := hv j (hv2' ▸ hj); omega))
        have hb9 := hb2.kept hk9 (fun h => by have : w.heap.size = w1.heap.size := h; omega)
        have K9 := K2.trans hk9 (fun j hj h => by have : j = w1.heap.size := h; omega)
        clear k2 c2 hat2 hu2 hb2 K2 hk9 HW
        go_wp2_with fail
        go_roundw
        case rel => exact ⟨k + 1, setV u k (UInt32.ofNat m), zs2, v2, by omega, by go_num, H2.out, hput, hb9, K9, hv2', HRN.out, by omega⟩
        case measure => simp [intOf]; omega
    case neg =>
      obtain rfl : k = n := by omega
      have hRR := HRD.out
      rw [Nat.sub_self, readN_zero0] at hRR
      have hd := HD.out
      rw [HM.out, ← hRR] at hd
      simp only [if_true] at hd
      have Hd := Lib.hid hd
      have H2 := Lib.hid hat
      have HZ := Lib.hid (show ∀ m, k ≤ m → atV u m = 0 from fun m hm => by
        have := readN_zero k 0 zeroV ys (by omega) (fun n _ => atV_zero n) m (by omega)
        rw [← HR.out, ← hRR] at this
        exact this)
      clear hRR HRD HR HM HD hd hat
      have hd := Hd.out
      rcases Nat.eq_zero_or_pos k with h0 | h0
      case inl =>
        have hcnt : countN u 16 = k := by rw [h0]; exact countN_eq u 16 0 (by omega) (fun n _ _ => HZ.out n (by omega)) (.inl rfl)
        rw [if_pos hcnt] at hd
        have hk0 : ¬ (0 : Int) < (k : Int) := by omega
        clear h0 Hd HZ
        injection hd with d1 hd
        injection hd with d2 d3
        have D1 := Lib.hid d1
        have D2 := Lib.hid d2
        have D3 := Lib.hid d3
        clear d1 d2 d3 hcnt
        go_wp2_with (first
          | (refine wpList_load_vec rfl (.tmp 6) rfl rfl hu.at ?_)
          | (refine wpList_store_vec rfl (.tmp 2) (.tmp 49) rfl rfl hz rfl ?_; intro w9 b9 k9))
        refine bodyPost_ret (results_vec2 rfl _ rfl b9) rfl ?_
        refine ⟨by rw [← D1.out, ← D2.out]; rfl, ?_⟩
        rw [← D3.out]
        exact ⟨sv, H2.out.kept k9 (fun h => by have : g = w.heap.size := h; omega) (fun j hj h => by have h2 : j = w.heap.size := h; have := hv j (hsv ▸ hj); omega), hK.trans k9 (fun j hj h => by have : j = w.heap.size := h; omega), hsv⟩
      case inr =>
        obtain ⟨m, hm⟩ : ∃ m, k = m + 1 := ⟨k - 1, by omega⟩
        have hm16 : m < 16 := by omega
        have hk0 : (0 : Int) < (k : Int) := by omega
        have hm' : (m : Int) < 16 := by omega
        have hm0 : (0 : Int) ≤ (m : Int) := by omega
        have n4 : (k : Int) - 1 = m := by omega
        have n3 : IntKind.u64.wrap ((k : Int) - 1) = m := by rw [n4]; exact IntWalk.u64_in _ (by omega)
        have c1 := hu.cell hm16
        by_cases hx : (atV u m).toNat = 0
        case pos =>
          have hcnt : ¬ countN u 16 = k := fun e => by
            have := countN_last u 16 (by omega)
            rw [e, show k - 1 = m by omega] at this
            exact this (UInt32.toNat_inj.1 (by simpa using hx))
          rw [if_neg hcnt] at hd
          have hx' : ((atV u m).toNat : Int) = 0 := by omega
          clear h0 Hd HZ hx hm
          injection hd with d1 hd
          injection hd with d2 d3
          have D1 := Lib.hid d1
          have D2 := Lib.hid d2
          have D3 := Lib.hid d3
          clear d1 d2 d3 hcnt
          go_wp2_with (first
            | (refine wpList_build_vec rfl rfl ?_)
            | (refine wpList_store_vec rfl (.tmp 2) (.tmp 48) rfl rfl hz rfl ?_; intro w9 b9 k9))
          refine bodyPost_ret (results_vec2 rfl _ rfl b9) rfl ?_
          refine ⟨by rw [← D1.out, ← D2.out]; rfl, ?_⟩
          rw [← D3.out]
          exact ⟨sv, H2.out.kept k9 (fun h => by have : g = w.heap.size := h; omega) (fun j hj h => by have h2 : j = w.heap.size := h; have := hv j (hsv ▸ hj); omega), hK.trans k9 (fun j hj h => by have : j = w.heap.size := h; omega), hsv⟩
        case neg =>
          have hcnt : countN u 16 = k := countN_eq u 16 k (by omega) (fun n h1 _ => HZ.out n h1) (.inr (by
            rw [show k - 1 = m by omega]
            intro e
            exact hx (by rw [e]; rfl)))
          rw [if_pos hcnt] at hd
          have hx' : ¬ ((atV u m).toNat : Int) = 0 := by omega
          clear h0 Hd HZ hx hm
          injection hd with d1 hd
          injection hd with d2 d3
          have D1 := Lib.hid d1
          have D2 := Lib.hid d2
          have D3 := Lib.hid d3
          clear d1 d2 d3 hcnt
          go_wp2_with (first
            | (refine wpList_load_vec rfl (.tmp 6) rfl rfl hu.at ?_)
            | (refine wpList_store_vec rfl (.tmp 2) (.tmp 49) rfl rfl hz rfl ?_; intro w9 b9 k9))
          refine bodyPost_ret (results_vec2 rfl _ rfl b9) rfl ?_
          refine ⟨by rw [← D1.out, ← D2.out]; rfl, ?_⟩
          rw [← D3.out]
          exact ⟨sv, H2.out.kept k9 (fun h => by have : g = w.heap.size := h; omega) (fun j hj h => by have h2 : j = w.heap.size := h; have := hv j (hsv ▸ hj); omega), hK.trans k9 (fun j hj h => by have : j = w.heap.size := h; omega), hsv⟩
theorem r6Decode_any (w : World) (g : Nat) (v : Value) (xs : List UInt8) (hat : RefAt w g v xs) (hlen : xs.length ≤ 140737488355328) :
    Calls Try.prog 30 #[.pointer (some ⟨g, 0, none⟩)] w fun e W' => e = .returned (.tuple #[VecV (decV xs).2.1, .int .i64 (decV xs).1]) ∧ RefRead w g v (decV xs).2.2 W' :=
  r6Decode_form w g v xs hat hlen _ _ _ rfl
end Go.Proofs.Ytbkbogblbniogaa
