/- What VectorNames asks of single calls (tools/gennames6.py). -/
import Derived.Test.YtbkbogblbniogaaVecBackW
namespace Go.Proofs.Ytbkbogblbniogaa
open Go.RowKit Go.Great
set_option maxRecDepth 100000

set_option maxHeartbeats 1000000 in
theorem pVDecode_nil (w : World) : Calls Try.prog 29 #[.pointer none] w fun e W' => e = .returned (.tuple #[VecV zeroV, .int .i64 1]) ∧ Below w.heap.size w W' := by
  have b0 := BoxV.new w zeroV
  have hB0 := below_alloc w (.cells (encC zeroV).toArray 24)
  go_enter Try.func29, Try.ntmps29
  go_wp2_with (refine wpList_alloc_vec rfl rfl ?_)
  refine (SrcNumber_none _ _).mono ?_
  rintro e w1 ⟨rfl, hb⟩
  replace b0 := b0.below hb
  replace hB0 := hB0.trans (hb.mono hB0.size)
  clear hb
  go_wp2_with (first
    | (refine wpList_build_vec rfl rfl ?_)
    | (refine wpList_store_vec rfl (.tmp 2) (.tmp 18) rfl rfl b0 rfl ?_; intro w9 b9 k9))
  refine bodyPost_ret (results_vec2 rfl _ rfl b9) rfl ?_
  exact ⟨rfl, hB0.trans (k9.below (fun j _ e => by have : j = w.heap.size := e; omega) hB0.size)⟩
theorem bs_lit (w : World) (xs : List UInt8) (t : TypeId) {cs : Array Value} (h : cs = (xs.map B8).toArray) {n : Nat} (hn : n = xs.length) : Bs (w.alloc (.cells cs t)) (.slice (some ⟨w.heap.size, 0, none⟩) n n) xs := by
  subst h hn
  refine .inr ⟨_, _, rfl, Nat.le_refl _, fun i x hi => ?_⟩
  obtain ⟨h1, h2⟩ := List.getElem?_eq_some_iff.1 hi
  simp [add_plain, h1, h2]
theorem of6_lit (xs : List UInt32) (h16 : xs.length ≤ 16) {cs : Array Value} (hcs : cs = (xs.map W32).toArray) {n : Nat} (hn : n = xs.length) (w : World) :
    Calls Try.prog 34 #[.slice (some ⟨w.heap.size, 0, none⟩) n n] (w.alloc (.cells cs 22)) fun e W' => e = .returned (VecV (ofV xs)) ∧ Below w.heap.size w W' :=
  (of6_any _ _ xs (Us.built w xs hcs hn) h16).mono fun _ _ h => ⟨h.1, (below_alloc w _).trans (h.2.mono (below_alloc w _).size)⟩
theorem of6_none (w : World) : Calls Try.prog 34 #[.slice none 0 0] w fun e W' => e = .returned (VecV zeroV) ∧ Below w.heap.size w W' := by
  have := of6_any w (.slice none 0 0) [] (.inl ⟨rfl, rfl⟩) (by decide)
  rw [ofV_nil] at this
  exact this
/-- A source of literal bytes. -/
theorem from_lit (xs : List UInt8) (hlen : xs.length ≤ 1000) {cs : Array Value} (hcs : cs = (xs.map B8).toArray) {n : Nat} (hn : n = xs.length) (w : World) :
    Calls Try.prog 28 #[.slice (some ⟨w.heap.size, 0, none⟩) n n] (w.alloc (.cells cs 5)) fun e W' => ∃ g v, e = .returned (.pointer (some ⟨g, 0, none⟩)) ∧ SourceAt W' g v xs ∧ w.heap.size ≤ g ∧ Below w.heap.size w W' :=
  (From_any _ _ xs (bs_lit w xs 5 hcs hn) (by omega)).mono fun _ _ ⟨g, v, he, hs, hg, _, hb⟩ => ⟨g, v, he, hs, Nat.le_trans (below_alloc w _).size hg, (below_alloc w _).trans (hb.mono (below_alloc w _).size)⟩
theorem vn_enc201 : encV (ofV [2, 0, 1]) = [3, 2, 0, 1] := by decide +kernel
theorem vn_enc0 : encV zeroV = [0] := by decide +kernel
theorem vn_enc0300 : encV (ofV [0, 300]) = [2, 0, 172, 2] := by decide +kernel
theorem vn_next5 : nextE (ofV [5]) 0 = 0 := by decide +kernel
theorem vn_nextd5 : nextD (ofV [5]) 0 = (0, 6) := by decide +kernel
theorem vn_nextm : nextE (ofV [4294967295]) 0 = 60 := by decide +kernel
theorem vn_nextdm : nextD (ofV [4294967295]) 0 = (0, 0) := by decide +kernel
theorem vn_next16 : nextE zeroV 16 = 50 := by decide +kernel
theorem vn_nextd16 : nextD zeroV 16 = (0, 0) := by decide +kernel
theorem vn_nextn : nextE zeroV (-1) = 50 := by decide +kernel
theorem vn_nextdn : nextD zeroV (-1) = (0, 0) := by decide +kernel
theorem vn_add12 : addE (ofV [5]) 1 2 = 61 := by decide +kernel
theorem vn_addv12 : addV (ofV [5]) 1 2 = zeroV := by decide +kernel
theorem vn_add11 : addE (ofV [5]) 1 1 = 0 := by decide +kernel
theorem vn_addv11 : addV (ofV [5]) 1 1 = ofV [5, 1] := by decide +kernel
theorem vn_add05 : addE (ofV [5]) 0 5 = 61 := by decide +kernel
theorem vn_addv05 : addV (ofV [5]) 0 5 = zeroV := by decide +kernel
theorem vn_addm : addE (ofV [4294967295]) 0 4294967296 = 50 := by decide +kernel
theorem vn_addvm : addV (ofV [4294967295]) 0 4294967296 = zeroV := by decide +kernel
theorem vn_addl : addE (ofV [4294967294]) 0 4294967295 = 0 := by decide +kernel
theorem vn_addvl : addV (ofV [4294967294]) 0 4294967295 = ofV [4294967295] := by decide +kernel
theorem vn_dec210 : decV [2, 1, 0] = (62, zeroV, []) := by decide +kernel
theorem vn_dec17 : decV [17] = (12, zeroV, [17]) := by decide +kernel
theorem vn_dec1 : decV [1] = (10, zeroV, []) := by decide +kernel
theorem vn_dec09 : decV [0, 9] = (0, zeroV, [9]) := by decide +kernel
theorem vn_lacks : lacksN (ofV [1, 9]) (ofV [3, 2]) 16 = 2 := by decide +kernel
theorem vn_cmp21 : cmpV (ofV [2]) (ofV [1]) = 2 := by decide +kernel
theorem vn_joinN : joinL [] = zeroV := by decide +kernel
theorem vn_meetN : meetL [] = zeroV := by decide +kernel
theorem vn_has3 : HasV (ofV [3]) 0 3 := by unfold HasV; decide +kernel
theorem vn_has4 : ¬ HasV (ofV [3]) 0 4 := by unfold HasV; decide +kernel
theorem vn_has0 : ¬ HasV (ofV [3]) 0 0 := by unfold HasV; decide +kernel
theorem vn_has16 : ¬ HasV (ofV [3]) 16 1 := by unfold HasV; decide +kernel
theorem vn_le19 : ¬ LeV (ofV [1]) (ofV [0, 9]) := leV_no (n := 0) (by decide) (by decide +kernel)
@[irreducible] def vn201 : Vc := ofV [2, 0, 1]
@[irreducible] def vn0300 : Vc := ofV [0, 300]
@[irreducible] def vn5 : Vc := ofV [5]
@[irreducible] def vnm : Vc := ofV [4294967295]
@[irreducible] def vnl : Vc := ofV [4294967294]
@[irreducible] def vn51 : Vc := ofV [5, 1]
@[irreducible] def vn3 : Vc := ofV [3]
@[irreducible] def vn19 : Vc := ofV [1, 9]
@[irreducible] def vn32 : Vc := ofV [3, 2]
@[irreducible] def vn2 : Vc := ofV [2]
@[irreducible] def vn1 : Vc := ofV [1]
@[irreducible] def vn09 : Vc := ofV [0, 9]
@[irreducible] def vnZ : Vc := zeroV
theorem nc_cv201 (W : World) : Calls Try.prog 34 #[.slice (some ⟨W.heap.size, 0, none⟩) 3 3] (W.alloc (.cells #[.int .u32 2, .int .u32 0, .int .u32 1] 22)) fun e W' => e = .returned (VecV vn201) ∧ Below W.heap.size W W' := by
  unfold vn201
  exact of6_lit [2, 0, 1] (by decide) rfl rfl W
theorem nc_ov201 (W : World) (v : Value) (h : Us W v [2, 0, 1]) : Calls Try.prog 34 #[v] W fun e W' => e = .returned (VecV vn201) ∧ Below W.heap.size W W' := by
  unfold vn201
  exact of6_any W v [2, 0, 1] h (by decide)
theorem nc_cv0300 (W : World) : Calls Try.prog 34 #[.slice (some ⟨W.heap.size, 0, none⟩) 2 2] (W.alloc (.cells #[.int .u32 0, .int .u32 300] 22)) fun e W' => e = .returned (VecV vn0300) ∧ Below W.heap.size W W' := by
  unfold vn0300
  exact of6_lit [0, 300] (by decide) rfl rfl W
theorem nc_ov0300 (W : World) (v : Value) (h : Us W v [0, 300]) : Calls Try.prog 34 #[v] W fun e W' => e = .returned (VecV vn0300) ∧ Below W.heap.size W W' := by
  unfold vn0300
  exact of6_any W v [0, 300] h (by decide)
theorem nc_cv5 (W : World) : Calls Try.prog 34 #[.slice (some ⟨W.heap.size, 0, none⟩) 1 1] (W.alloc (.cells #[.int .u32 5] 22)) fun e W' => e = .returned (VecV vn5) ∧ Below W.heap.size W W' := by
  unfold vn5
  exact of6_lit [5] (by decide) rfl rfl W
theorem nc_ov5 (W : World) (v : Value) (h : Us W v [5]) : Calls Try.prog 34 #[v] W fun e W' => e = .returned (VecV vn5) ∧ Below W.heap.size W W' := by
  unfold vn5
  exact of6_any W v [5] h (by decide)
theorem nc_cvm (W : World) : Calls Try.prog 34 #[.slice (some ⟨W.heap.size, 0, none⟩) 1 1] (W.alloc (.cells #[.int .u32 4294967295] 22)) fun e W' => e = .returned (VecV vnm) ∧ Below W.heap.size W W' := by
  unfold vnm
  exact of6_lit [4294967295] (by decide) rfl rfl W
theorem nc_ovm (W : World) (v : Value) (h : Us W v [4294967295]) : Calls Try.prog 34 #[v] W fun e W' => e = .returned (VecV vnm) ∧ Below W.heap.size W W' := by
  unfold vnm
  exact of6_any W v [4294967295] h (by decide)
theorem nc_cvl (W : World) : Calls Try.prog 34 #[.slice (some ⟨W.heap.size, 0, none⟩) 1 1] (W.alloc (.cells #[.int .u32 4294967294] 22)) fun e W' => e = .returned (VecV vnl) ∧ Below W.heap.size W W' := by
  unfold vnl
  exact of6_lit [4294967294] (by decide) rfl rfl W
theorem nc_ovl (W : World) (v : Value) (h : Us W v [4294967294]) : Calls Try.prog 34 #[v] W fun e W' => e = .returned (VecV vnl) ∧ Below W.heap.size W W' := by
  unfold vnl
  exact of6_any W v [4294967294] h (by decide)
theorem nc_cv51 (W : World) : Calls Try.prog 34 #[.slice (some ⟨W.heap.size, 0, none⟩) 2 2] (W.alloc (.cells #[.int .u32 5, .int .u32 1] 22)) fun e W' => e = .returned (VecV vn51) ∧ Below W.heap.size W W' := by
  unfold vn51
  exact of6_lit [5, 1] (by decide) rfl rfl W
theorem nc_ov51 (W : World) (v : Value) (h : Us W v [5, 1]) : Calls Try.prog 34 #[v] W fun e W' => e = .returned (VecV vn51) ∧ Below W.heap.size W W' := by
  unfold vn51
  exact of6_any W v [5, 1] h (by decide)
theorem nc_cv3 (W : World) : Calls Try.prog 34 #[.slice (some ⟨W.heap.size, 0, none⟩) 1 1] (W.alloc (.cells #[.int .u32 3] 22)) fun e W' => e = .returned (VecV vn3) ∧ Below W.heap.size W W' := by
  unfold vn3
  exact of6_lit [3] (by decide) rfl rfl W
theorem nc_ov3 (W : World) (v : Value) (h : Us W v [3]) : Calls Try.prog 34 #[v] W fun e W' => e = .returned (VecV vn3) ∧ Below W.heap.size W W' := by
  unfold vn3
  exact of6_any W v [3] h (by decide)
theorem nc_cv19 (W : World) : Calls Try.prog 34 #[.slice (some ⟨W.heap.size, 0, none⟩) 2 2] (W.alloc (.cells #[.int .u32 1, .int .u32 9] 22)) fun e W' => e = .returned (VecV vn19) ∧ Below W.heap.size W W' := by
  unfold vn19
  exact of6_lit [1, 9] (by decide) rfl rfl W
theorem nc_ov19 (W : World) (v : Value) (h : Us W v [1, 9]) : Calls Try.prog 34 #[v] W fun e W' => e = .returned (VecV vn19) ∧ Below W.heap.size W W' := by
  unfold vn19
  exact of6_any W v [1, 9] h (by decide)
theorem nc_cv32 (W : World) : Calls Try.prog 34 #[.slice (some ⟨W.heap.size, 0, none⟩) 2 2] (W.alloc (.cells #[.int .u32 3, .int .u32 2] 22)) fun e W' => e = .returned (VecV vn32) ∧ Below W.heap.size W W' := by
  unfold vn32
  exact of6_lit [3, 2] (by decide) rfl rfl W
theorem nc_ov32 (W : World) (v : Value) (h : Us W v [3, 2]) : Calls Try.prog 34 #[v] W fun e W' => e = .returned (VecV vn32) ∧ Below W.heap.size W W' := by
  unfold vn32
  exact of6_any W v [3, 2] h (by decide)
theorem nc_cv2 (W : World) : Calls Try.prog 34 #[.slice (some ⟨W.heap.size, 0, none⟩) 1 1] (W.alloc (.cells #[.int .u32 2] 22)) fun e W' => e = .returned (VecV vn2) ∧ Below W.heap.size W W' := by
  unfold vn2
  exact of6_lit [2] (by decide) rfl rfl W
theorem nc_ov2 (W : World) (v : Value) (h : Us W v [2]) : Calls Try.prog 34 #[v] W fun e W' => e = .returned (VecV vn2) ∧ Below W.heap.size W W' := by
  unfold vn2
  exact of6_any W v [2] h (by decide)
theorem nc_cv1 (W : World) : Calls Try.prog 34 #[.slice (some ⟨W.heap.size, 0, none⟩) 1 1] (W.alloc (.cells #[.int .u32 1] 22)) fun e W' => e = .returned (VecV vn1) ∧ Below W.heap.size W W' := by
  unfold vn1
  exact of6_lit [1] (by decide) rfl rfl W
theorem nc_ov1 (W : World) (v : Value) (h : Us W v [1]) : Calls Try.prog 34 #[v] W fun e W' => e = .returned (VecV vn1) ∧ Below W.heap.size W W' := by
  unfold vn1
  exact of6_any W v [1] h (by decide)
theorem nc_cv09 (W : World) : Calls Try.prog 34 #[.slice (some ⟨W.heap.size, 0, none⟩) 2 2] (W.alloc (.cells #[.int .u32 0, .int .u32 9] 22)) fun e W' => e = .returned (VecV vn09) ∧ Below W.heap.size W W' := by
  unfold vn09
  exact of6_lit [0, 9] (by decide) rfl rfl W
theorem nc_ov09 (W : World) (v : Value) (h : Us W v [0, 9]) : Calls Try.prog 34 #[v] W fun e W' => e = .returned (VecV vn09) ∧ Below W.heap.size W W' := by
  unfold vn09
  exact of6_any W v [0, 9] h (by decide)
theorem nc_cvZ (W : World) : Calls Try.prog 34 #[.slice none 0 0] W fun e W' => e = .returned (VecV vnZ) ∧ Below W.heap.size W W' := by
  unfold vnZ
  have h := of6_none W
  exact h
theorem nc_e201 (W : World) : Calls Try.prog 31 #[VecV vn201] W (Made W [3, 2, 0, 1]) := by
  unfold vn201
  have h := pVEncode_any W (ofV [2, 0, 1])
  rw [vn_enc201] at h
  exact h
theorem nc_e0 (W : World) : Calls Try.prog 31 #[VecV vnZ] W (Made W [0]) := by
  unfold vnZ
  have h := pVEncode_any W zeroV
  rw [vn_enc0] at h
  exact h
theorem nc_e0300 (W : World) : Calls Try.prog 31 #[VecV vn0300] W (Made W [2, 0, 172, 2]) := by
  unfold vn0300
  have h := pVEncode_any W (ofV [0, 300])
  rw [vn_enc0300] at h
  exact h
theorem nc_n5 (W : World) : Calls Try.prog 11 #[VecV vn5, .int .i64 0] W fun e W' => e = .returned (.tuple #[DotV 0 6, .int .i64 0]) ∧ Below W.heap.size W W' := by
  unfold vn5
  have h := pVNext_any W (ofV [5]) 0
  simp only [vn_next5, vn_nextd5] at h
  exact h
theorem nc_nm (W : World) : Calls Try.prog 11 #[VecV vnm, .int .i64 0] W fun e W' => e = .returned (.tuple #[DotV 0 0, .int .i64 60]) ∧ Below W.heap.size W W' := by
  unfold vnm
  have h := pVNext_any W (ofV [4294967295]) 0
  simp only [vn_nextm, vn_nextdm] at h
  exact h
theorem nc_n16 (W : World) : Calls Try.prog 11 #[VecV vnZ, .int .i64 16] W fun e W' => e = .returned (.tuple #[DotV 0 0, .int .i64 50]) ∧ Below W.heap.size W W' := by
  unfold vnZ
  have h := pVNext_any W zeroV 16
  simp only [vn_next16, vn_nextd16] at h
  exact h
theorem nc_nn (W : World) : Calls Try.prog 11 #[VecV vnZ, .int .i64 (-1)] W fun e W' => e = .returned (.tuple #[DotV 0 0, .int .i64 50]) ∧ Below W.heap.size W W' := by
  unfold vnZ
  have h := pVNext_any W zeroV (-1)
  simp only [vn_nextn, vn_nextdn] at h
  exact h
theorem nc_a12 (W : World) : Calls Try.prog 13 #[VecV vn5, DotV 1 2] W fun e W' => e = .returned (.tuple #[VecV vnZ, .int .i64 61]) ∧ Below W.heap.size W W' := by
  unfold vn5 vnZ
  have h := pVAdd_any W (ofV [5]) 1 2
  simp only [vn_add12, vn_addv12] at h
  exact h
theorem nc_a11 (W : World) : Calls Try.prog 13 #[VecV vn5, DotV 1 1] W fun e W' => e = .returned (.tuple #[VecV vn51, .int .i64 0]) ∧ Below W.heap.size W W' := by
  unfold vn5 vn51
  have h := pVAdd_any W (ofV [5]) 1 1
  simp only [vn_add11, vn_addv11] at h
  exact h
theorem nc_a05 (W : World) : Calls Try.prog 13 #[VecV vn5, DotV 0 5] W fun e W' => e = .returned (.tuple #[VecV vnZ, .int .i64 61]) ∧ Below W.heap.size W W' := by
  unfold vn5 vnZ
  have h := pVAdd_any W (ofV [5]) 0 5
  simp only [vn_add05, vn_addv05] at h
  exact h
theorem nc_am (W : World) : Calls Try.prog 13 #[VecV vnm, DotV 0 4294967296] W fun e W' => e = .returned (.tuple #[VecV vnZ, .int .i64 50]) ∧ Below W.heap.size W W' := by
  unfold vnm vnZ
  have h := pVAdd_any W (ofV [4294967295]) 0 4294967296
  simp only [vn_addm, vn_addvm] at h
  exact h
theorem nc_al (W : World) : Calls Try.prog 13 #[VecV vnl, DotV 0 4294967295] W fun e W' => e = .returned (.tuple #[VecV vnm, .int .i64 0]) ∧ Below W.heap.size W W' := by
  unfold vnl vnm
  have h := pVAdd_any W (ofV [4294967294]) 0 4294967295
  simp only [vn_addl, vn_addvl] at h
  exact h
theorem nc_dN (W : World) : Calls Try.prog 29 #[.pointer none] W fun e W' => e = .returned (.tuple #[VecV vnZ, .int .i64 1]) ∧ Below W.heap.size W W' := by
  unfold vnZ
  have h := pVDecode_nil W
  exact h
theorem nc_d210 (W : World) (g : Nat) (v : Value) (h : SourceAt W g v [2, 1, 0]) : Calls Try.prog 29 #[.pointer (some ⟨g, 0, none⟩)] W fun e W' => e = .returned (.tuple #[VecV vnZ, .int .i64 62]) ∧ SourceRead W g v [] W' := by
  unfold vnZ
  have k := pVDecode_any W g v [2, 1, 0] h (by decide)
  rw [vn_dec210] at k
  exact k
theorem nc_f210 (W : World) : Calls Try.prog 28 #[.slice (some ⟨W.heap.size, 0, none⟩) 3 3] (W.alloc (.cells #[.int .u8 2, .int .u8 1, .int .u8 0] 5)) fun e W' => ∃ g v, e = .returned (.pointer (some ⟨g, 0, none⟩)) ∧ SourceAt W' g v [2, 1, 0] ∧ W.heap.size ≤ g ∧ Below W.heap.size W W' := from_lit [2, 1, 0] (by decide) rfl rfl W
theorem nc_d17 (W : World) (g : Nat) (v : Value) (h : SourceAt W g v [17]) : Calls Try.prog 29 #[.pointer (some ⟨g, 0, none⟩)] W fun e W' => e = .returned (.tuple #[VecV vnZ, .int .i64 12]) ∧ SourceRead W g v [17] W' := by
  unfold vnZ
  have k := pVDecode_any W g v [17] h (by decide)
  rw [vn_dec17] at k
  exact k
theorem nc_f17 (W : World) : Calls Try.prog 28 #[.slice (some ⟨W.heap.size, 0, none⟩) 1 1] (W.alloc (.cells #[.int .u8 17] 5)) fun e W' => ∃ g v, e = .returned (.pointer (some ⟨g, 0, none⟩)) ∧ SourceAt W' g v [17] ∧ W.heap.size ≤ g ∧ Below W.heap.size W W' := from_lit [17] (by decide) rfl rfl W
theorem nc_d1 (W : World) (g : Nat) (v : Value) (h : SourceAt W g v [1]) : Calls Try.prog 29 #[.pointer (some ⟨g, 0, none⟩)] W fun e W' => e = .returned (.tuple #[VecV vnZ, .int .i64 10]) ∧ SourceRead W g v [] W' := by
  unfold vnZ
  have k := pVDecode_any W g v [1] h (by decide)
  rw [vn_dec1] at k
  exact k
theorem nc_f1 (W : World) : Calls Try.prog 28 #[.slice (some ⟨W.heap.size, 0, none⟩) 1 1] (W.alloc (.cells #[.int .u8 1] 5)) fun e W' => ∃ g v, e = .returned (.pointer (some ⟨g, 0, none⟩)) ∧ SourceAt W' g v [1] ∧ W.heap.size ≤ g ∧ Below W.heap.size W W' := from_lit [1] (by decide) rfl rfl W
theorem nc_d09 (W : World) (g : Nat) (v : Value) (h : SourceAt W g v [0, 9]) : Calls Try.prog 29 #[.pointer (some ⟨g, 0, none⟩)] W fun e W' => e = .returned (.tuple #[VecV vnZ, .int .i64 0]) ∧ SourceRead W g v [9] W' := by
  unfold vnZ
  have k := pVDecode_any W g v [0, 9] h (by decide)
  rw [vn_dec09] at k
  exact k
theorem nc_f09 (W : World) : Calls Try.prog 28 #[.slice (some ⟨W.heap.size, 0, none⟩) 2 2] (W.alloc (.cells #[.int .u8 0, .int .u8 9] 5)) fun e W' => ∃ g v, e = .returned (.pointer (some ⟨g, 0, none⟩)) ∧ SourceAt W' g v [0, 9] ∧ W.heap.size ≤ g ∧ Below W.heap.size W W' := from_lit [0, 9] (by decide) rfl rfl W
theorem nc_h3 (W : World) : Calls Try.prog 19 #[VecV vn3, DotV 0 3] W fun e W' => e = .returned (.bool true) ∧ Below W.heap.size W W' := by
  unfold vn3
  have h := pVHas_any W (ofV [3]) 0 3
  simp only [decide_eq_true vn_has3] at h
  exact h
theorem nc_h4 (W : World) : Calls Try.prog 19 #[VecV vn3, DotV 0 4] W fun e W' => e = .returned (.bool false) ∧ Below W.heap.size W W' := by
  unfold vn3
  have h := pVHas_any W (ofV [3]) 0 4
  simp only [decide_eq_false vn_has4] at h
  exact h
theorem nc_h0 (W : World) : Calls Try.prog 19 #[VecV vn3, DotV 0 0] W fun e W' => e = .returned (.bool false) ∧ Below W.heap.size W W' := by
  unfold vn3
  have h := pVHas_any W (ofV [3]) 0 0
  simp only [decide_eq_false vn_has0] at h
  exact h
theorem nc_h16 (W : World) : Calls Try.prog 19 #[VecV vn3, DotV 16 1] W fun e W' => e = .returned (.bool false) ∧ Below W.heap.size W W' := by
  unfold vn3
  have h := pVHas_any W (ofV [3]) 16 1
  simp only [decide_eq_false vn_has16] at h
  exact h
theorem nc_lk (W : World) : Calls Try.prog 25 #[VecV vn19, VecV vn32] W fun e W' => e = .returned (.int .u64 2) ∧ Below W.heap.size W W' := by
  unfold vn19 vn32
  have h := pVLacks_any W (ofV [1, 9]) (ofV [3, 2])
  simp only [vn_lacks] at h
  exact h
theorem nc_cm (W : World) : Calls Try.prog 23 #[VecV vn2, VecV vn1] W fun e W' => e = .returned (.int .i64 2) ∧ Below W.heap.size W W' := by
  unfold vn2 vn1
  have h := pVCompare_any W (ofV [2]) (ofV [1])
  simp only [vn_cmp21] at h
  exact h
theorem nc_cs (W : World) : Calls Try.prog 23 #[VecV vn2, VecV vn2] W fun e W' => e = .returned (.int .i64 0) ∧ Below W.heap.size W W' := by
  unfold vn2
  have h := pVCompare_any W (ofV [2]) (ofV [2])
  simp only [cmpV_same] at h
  exact h
theorem nc_le0 (W : World) : Calls Try.prog 21 #[VecV vnZ, VecV vnZ] W fun e W' => e = .returned (.bool true) ∧ Below W.heap.size W W' := by
  unfold vnZ
  have h := pVAtMost_any W zeroV zeroV
  simp only [decide_eq_true (LeV.refl zeroV)] at h
  exact h
theorem nc_le1 (W : World) : Calls Try.prog 21 #[VecV vn1, VecV vn09] W fun e W' => e = .returned (.bool false) ∧ Below W.heap.size W W' := by
  unfold vn1 vn09
  have h := pVAtMost_any W (ofV [1]) (ofV [0, 9])
  simp only [decide_eq_false vn_le19] at h
  exact h
theorem nc_mg (W : World) : Calls Try.prog 15 #[.slice none 0 0] W fun e W' => e = .returned (VecV vnZ) ∧ Below W.heap.size W W' := by
  unfold vnZ
  have h := pVMerge_any W (.slice none 0 0) [] (Es.nil W) (by decide)
  simp only [vn_joinN] at h
  exact h
theorem nc_mt (W : World) : Calls Try.prog 16 #[.slice none 0 0] W fun e W' => e = .returned (VecV vnZ) ∧ Below W.heap.size W W' := by
  unfold vnZ
  have h := pVMeet_any W (.slice none 0 0) [] (Es.nil W) (by decide)
  simp only [vn_meetN] at h
  exact h
end Go.Proofs.Ytbkbogblbniogaa
