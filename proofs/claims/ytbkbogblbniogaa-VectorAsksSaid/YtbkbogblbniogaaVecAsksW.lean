/- The walk of VectorAsks (tools/genasks.py). -/
import Derived.Test.YtbkbogblbniogaaStep
namespace Go.Proofs.Ytbkbogblbniogaa
open Go.RowKit Go.Great
set_option maxRecDepth 100000

theorem asks_boxes (w : World) (a b : Vc) (s c : Int) : ∃ w2, w2 = ((w.alloc (.cells (encC a).toArray 24)).alloc (.cells (encC b).toArray 24)).alloc (.cells #[.int .i64 s, .int .i64 c] 27) ∧ BoxV w2 w.heap.size a ∧ BoxV w2 (w.heap.size + 1) b ∧ w2.cell? ⟨w.heap.size + 2, 0, none⟩ = some (.int .i64 s) ∧ w2.cell? ⟨w.heap.size + 2, 1, none⟩ = some (.int .i64 c) ∧ Below w.heap.size w w2 := by
  obtain ⟨w2, rfl, b1, b2, hB⟩ := two_boxes w a b
  have hb := below_alloc ((w.alloc (.cells (encC a).toArray 24)).alloc (.cells (encC b).toArray 24)) (.cells #[.int .i64 s, .int .i64 c] 27)
  refine ⟨_, rfl, b1.below hb, b2.below hb, ?_, ?_, hB.trans (hb.mono hB.size)⟩ <;> go_simp
theorem next_made (w : World) (x y : Int) : (w.alloc (.cells #[.int .i64 x, .int .i64 y] 27)).cell? ⟨w.heap.size, 0, none⟩ = some (.int .i64 x) ∧ (w.alloc (.cells #[.int .i64 x, .int .i64 y] 27)).cell? ⟨w.heap.size, 1, none⟩ = some (.int .i64 y) := by
  constructor <;> go_simp
theorem kept_new {w w' : World} {o : Obj} (k : Kept (· = w.heap.size) (w.alloc o) w') : Below w.heap.size w w' :=
  (((Kept.refl (· = w.heap.size) w).alloc o).same k).below (fun j _ e => by subst e; exact Nat.le_refl _) (Nat.le_refl _)

set_option maxHeartbeats 4000000 in
theorem asks_arg (w : World) (a b : Vc) (A : Option Addr) (cap : Nat) (l : List Vc) (hs : Es eVec w (.slice A l.length cap) l) (s c k : Int) :
    Calls Try.prog 3 #[VecV a, VecV b, .slice A l.length cap, DotV s c, .int .i64 k] w fun e W' => e = .returned (.bool true) ∧ Below w.heap.size w W' := by
  obtain ⟨w0, hw0, bA, bB, g1, g2, hB0⟩ := asks_boxes w a b s c
  by_cases hlen : 20 < l.length
  case pos =>
    have h20 : (20 : Int) < (l.length : Int) := by omega
    clear hs
    go_enter Try.func3, Try.ntmps3
    go_wp2_with fail
    go_ret
    exact ⟨rfl, by rw [← hw0]; exact hB0⟩
  have h20 : ¬ (20 : Int) < (l.length : Int) := by omega
  have hlm : l.length ≤ 1000000 := by omega
  have HS := Lib.hid (hs.below hB0)
  clear hs hlen
  obtain ⟨n1, n2, ne, hn⟩ : ∃ x y z, nextD a k = (x, y) ∧ nextE a k = z := ⟨_, _, _, rfl, rfl⟩
  have cn := fun W => pVNext_any W a k
  have cn' := fun W => r6Next_any W a k
  rw [hn.1, hn.2] at cn cn'
  obtain ⟨V, ve, hv⟩ : ∃ x z, addV a s c = x ∧ addE a s c = z := ⟨_, _, rfl, rfl⟩
  have ca := fun W => pVAdd_any W a s c
  have ca' := fun W => r6Add_any W a s c
  rw [hv.1, hv.2] at ca ca'
  clear hn hv
  have cm := fun W v (h : Es eVec W v l) => pVMerge_any W v l h hlm
  have cm' := fun W v (h : Es eVec W v l) => r6Merge_any W v l h hlm
  have ct := fun W v (h : Es eVec W v l) => pVMeet_any W v l h hlm
  have ct' := fun W v (h : Es eVec W v l) => r6Meet_any W v l h hlm
  generalize joinL l = M at cm cm'
  generalize meetL l = T at ct ct'
  have ch := fun W => pVHas_any W a s c
  have ch' := fun W => r6Has_any W a s c
  generalize decide (HasV a s c) = hb at ch ch'
  have cl := fun W => pVAtMost_any W a b
  have cl' := fun W => r6AtMost_any W a b
  generalize decide (LeV a b) = lb at cl cl'
  have cc := fun W => pVCompare_any W a b
  have cc' := fun W => r6Compare_any W a b
  generalize cmpV a b = cb at cc cc'
  have ck := fun W => pVLacks_any W a b
  have ck' := fun W => r6Lacks_any W a b
  generalize lacksN a b 16 = kb at ck ck'
  have CM := Lib.hid cm; have CM' := Lib.hid cm'; have CT := Lib.hid ct; have CT' := Lib.hid ct'
  have CA := Lib.hid ca; have CA' := Lib.hid ca'; have CN := Lib.hid cn; have CN' := Lib.hid cn'
  have CH := Lib.hid ch; have CH' := Lib.hid ch'; have CL := Lib.hid cl; have CL' := Lib.hid cl'
  have CC := Lib.hid cc; have CC' := Lib.hid cc'; have CK := Lib.hid ck; have CK' := Lib.hid ck'
  clear cm cm' ct ct' ca ca' cn cn' ch ch' cl cl' cc cc' ck ck'
  have eV := fun W => equal_vec W V V
  have eM := fun W => equal_vec W M M
  have eT := fun W => equal_vec W T T
  rw [decide_eq_true rfl] at eV eM eT
  subst hw0
  go_enter Try.func3, Try.ntmps3
  go_wp2_with (first
    | (refine list_load_vec (by first | rfl | kernel_rfl) (.tmp 5) rfl rfl bA.at ?_)
    | (refine list_load_vec (by first | rfl | kernel_rfl) (.tmp 6) rfl rfl bB.at ?_))
  refine (CN.out _).mono ?_
  rintro e w1 ⟨rfl, hb1⟩
  replace bA := bA.below hb1
  replace bB := bB.below hb1
  replace g1 := cellOn hb1 g1
  replace g2 := cellOn hb1 g2
  replace HS := Lib.hid (HS.out.below hb1)
  replace hB0 := hB0.trans (hb1.mono hB0.size)
  have hb2 := below_alloc w1 (.cells #[.int .i64 n1, .int .i64 n2] 27)
  obtain ⟨p1, q1⟩ := next_made w1 n1 n2
  replace bA := bA.below hb2
  replace bB := bB.below hb2
  replace g1 := cellOn hb2 g1
  replace g2 := cellOn hb2 g2
  replace HS := Lib.hid (HS.out.below hb2)
  replace hB0 := hB0.trans (hb2.mono hB0.size)
  clear hb1 hb2
  go_wp2_with (first
    | (refine list_load_vec (by first | rfl | kernel_rfl) (.tmp 5) rfl rfl bA.at ?_)
    | (refine list_load_vec (by first | rfl | kernel_rfl) (.tmp 6) rfl rfl bB.at ?_))
  refine (CN'.out _).mono ?_
  rintro e w2 ⟨rfl, hb1⟩
  replace bA := bA.below hb1
  replace bB := bB.below hb1
  replace g1 := cellOn hb1 g1
  replace g2 := cellOn hb1 g2
  replace p1 := cellOn hb1 p1
  replace q1 := cellOn hb1 q1
  replace HS := Lib.hid (HS.out.below hb1)
  replace hB0 := hB0.trans (hb1.mono hB0.size)
  have hb2 := below_alloc w2 (.cells #[.int .i64 n1, .int .i64 n2] 27)
  obtain ⟨p2, q2⟩ := next_made w2 n1 n2
  replace bA := bA.below hb2
  replace bB := bB.below hb2
  replace g1 := cellOn hb2 g1
  replace g2 := cellOn hb2 g2
  replace p1 := cellOn hb2 p1
  replace q1 := cellOn hb2 q1
  replace HS := Lib.hid (HS.out.below hb2)
  replace hB0 := hB0.trans (hb2.mono hB0.size)
  clear hb1 hb2
  go_wp2_with (first
    | (refine list_load_vec (by first | rfl | kernel_rfl) (.tmp 5) rfl rfl bA.at ?_)
    | (refine list_load_vec (by first | rfl | kernel_rfl) (.tmp 6) rfl rfl bB.at ?_))
  refine (CA.out _).mono ?_
  rintro e w3 ⟨rfl, hb1⟩
  replace bA := bA.below hb1
  replace bB := bB.below hb1
  replace g1 := cellOn hb1 g1
  replace g2 := cellOn hb1 g2
  replace p1 := cellOn hb1 p1
  replace q1 := cellOn hb1 q1
  replace p2 := cellOn hb1 p2
  replace q2 := cellOn hb1 q2
  replace HS := Lib.hid (HS.out.below hb1)
  replace hB0 := hB0.trans (hb1.mono hB0.size)
  clear hb1
  go_wp2_with (first
    | (refine list_load_vec (by first | rfl | kernel_rfl) (.tmp 5) rfl rfl bA.at ?_)
    | (refine list_load_vec (by first | rfl | kernel_rfl) (.tmp 6) rfl rfl bB.at ?_)
    | (refine list_load_vec (by first | rfl | kernel_rfl) (.tmp 15) rfl rfl b15.at ?_)
    | (refine wpList_alloc_vec rfl rfl ?_)
    | (refine wpList_store_vec rfl (.tmp 15) (.tmp 42) rfl rfl (BoxV.new _ zeroV) rfl ?_
       intro v3 b15 k9
       have hb2 := kept_new k9
       replace bA := bA.below hb2
       replace bB := bB.below hb2
       replace g1 := cellOn hb2 g1
       replace g2 := cellOn hb2 g2
       replace p1 := cellOn hb2 p1
       replace q1 := cellOn hb2 q1
       replace p2 := cellOn hb2 p2
       replace q2 := cellOn hb2 q2
       replace HS := Lib.hid (HS.out.below hb2)
       replace hB0 := hB0.trans (hb2.mono hB0.size)
       clear hb2 k9))
  refine (CA'.out _).mono ?_
  rintro e w4 ⟨rfl, hb1⟩
  replace bA := bA.below hb1
  replace bB := bB.below hb1
  replace b15 := b15.below hb1
  replace g1 := cellOn hb1 g1
  replace g2 := cellOn hb1 g2
  replace p1 := cellOn hb1 p1
  replace q1 := cellOn hb1 q1
  replace p2 := cellOn hb1 p2
  replace q2 := cellOn hb1 q2
  replace HS := Lib.hid (HS.out.below hb1)
  replace hB0 := hB0.trans (hb1.mono hB0.size)
  clear hb1
  go_wp2_with (first
    | (refine list_load_vec (by first | rfl | kernel_rfl) (.tmp 5) rfl rfl bA.at ?_)
    | (refine list_load_vec (by first | rfl | kernel_rfl) (.tmp 6) rfl rfl bB.at ?_)
    | (refine list_load_vec (by first | rfl | kernel_rfl) (.tmp 15) rfl rfl b15.at ?_)
    | (refine list_load_vec (by first | rfl | kernel_rfl) (.tmp 17) rfl rfl b17.at ?_)
    | (refine wpList_alloc_vec rfl rfl ?_)
    | (refine wpList_store_vec rfl (.tmp 17) (.tmp 48) rfl rfl (BoxV.new _ zeroV) rfl ?_
       intro v4 b17 k9
       have hb2 := kept_new k9
       replace bA := bA.below hb2
       replace bB := bB.below hb2
       replace b15 := b15.below hb2
       replace g1 := cellOn hb2 g1
       replace g2 := cellOn hb2 g2
       replace p1 := cellOn hb2 p1
       replace q1 := cellOn hb2 q1
       replace p2 := cellOn hb2 p2
       replace q2 := cellOn hb2 q2
       replace HS := Lib.hid (HS.out.below hb2)
       replace hB0 := hB0.trans (hb2.mono hB0.size)
       clear hb2 k9)
    | (at_builtin
       have hown := RowE.made (E := eVec) (t := 24) v4
       have hsA := HS.out.below (below_alloc v4 (.cells #[] 24))
       refine wpList_append_es vecOf rfl (.tmp 50) (.tmp 51) rfl v4.heap.size _ [] rfl hown _ l rfl hsA (by simpa using hlm) (by simp) ?_
       intro v5 w5 hrow hgrow hblk
       have hb2 : Below v4.heap.size v4 w5 := (below_alloc v4 _).trans ((Kept.of_grown hgrow).below (B := v4.heap.size) (fun j _ e => (hown.lt j e).1) (by simp))
       replace bA := bA.below hb2
       replace bB := bB.below hb2
       replace b15 := b15.below hb2
       replace b17 := b17.below hb2
       replace g1 := cellOn hb2 g1
       replace g2 := cellOn hb2 g2
       replace p1 := cellOn hb2 p1
       replace q1 := cellOn hb2 q1
       replace p2 := cellOn hb2 p2
       replace q2 := cellOn hb2 q2
       replace HS := Lib.hid (HS.out.below hb2)
       replace hB0 := hB0.trans (hb2.mono hB0.size)
       have HO := Lib.hid (show Es eVec w5 v5 l from hrow.is)
       obtain ⟨A5, c5, hv5, _⟩ := HO.out.form
       subst hv5
       clear hb2 hrow hgrow hblk hown hsA))
  refine (CM.out _ _ HO.out).mono ?_
  rintro e w6 ⟨rfl, hb2⟩
  replace bA := bA.below hb2
  replace bB := bB.below hb2
  replace b15 := b15.below hb2
  replace b17 := b17.below hb2
  replace g1 := cellOn hb2 g1
  replace g2 := cellOn hb2 g2
  replace p1 := cellOn hb2 p1
  replace q1 := cellOn hb2 q1
  replace p2 := cellOn hb2 p2
  replace q2 := cellOn hb2 q2
  replace HS := Lib.hid (HS.out.below hb2)
  replace HO := Lib.hid (HO.out.below hb2)
  replace hB0 := hB0.trans (hb2.mono hB0.size)
  clear hb2
  go_wp2_with fail
  refine (CT.out _ _ HO.out).mono ?_
  rintro e w7 ⟨rfl, hb2⟩
  replace bA := bA.below hb2
  replace bB := bB.below hb2
  replace b15 := b15.below hb2
  replace b17 := b17.below hb2
  replace g1 := cellOn hb2 g1
  replace g2 := cellOn hb2 g2
  replace p1 := cellOn hb2 p1
  replace q1 := cellOn hb2 q1
  replace p2 := cellOn hb2 p2
  replace q2 := cellOn hb2 q2
  replace HS := Lib.hid (HS.out.below hb2)
  replace HO := Lib.hid (HO.out.below hb2)
  replace hB0 := hB0.trans (hb2.mono hB0.size)
  clear hb2
  go_wp2_with (first
    | (refine wpList_alloc_vec rfl rfl ?_)
    | (refine wpList_store_vec rfl (.tmp 20) (.tmp 54) rfl rfl ((BoxV.new w7 zeroV).below (below_alloc _ _)) rfl ?_; intro v6 b20 k20)
    | (refine wpList_store_vec rfl (.tmp 21) (.tmp 56) rfl rfl ((BoxV.new (w7.alloc (.cells (encC zeroV).toArray 24)) zeroV).kept k20 (by rw [World.size_alloc]; exact Nat.succ_ne_self _)) rfl ?_; intro v7 b21 k21))
  have hb7a := (below_alloc w7 (.cells (encC zeroV).toArray 24)).alloc (below_alloc w7 (.cells (encC zeroV).toArray 24)).size (.cells (encC zeroV).toArray 24)
  have hb7b := hb7a.trans (k20.below (B := w7.heap.size) (fun j _ e => by subst e; exact Nat.le_refl _) hb7a.size)
  have hb7 := hb7b.trans (k21.below (B := w7.heap.size) (fun j _ e => by subst e; rw [World.size_alloc]; exact Nat.le_succ _) hb7b.size)
  replace b20 := b20.kept k21 (fun h => by rw [World.size_alloc] at h; omega)
  rw [World.size_alloc] at b21
  clear k20 k21 hb7a hb7b
  replace bA := bA.below hb7
  replace bB := bB.below hb7
  replace b15 := b15.below hb7
  replace b17 := b17.below hb7
  replace g1 := cellOn hb7 g1
  replace g2 := cellOn hb7 g2
  replace p1 := cellOn hb7 p1
  replace q1 := cellOn hb7 q1
  replace p2 := cellOn hb7 p2
  replace q2 := cellOn hb7 q2
  replace HS := Lib.hid (HS.out.below hb7)
  replace HO := Lib.hid (HO.out.below hb7)
  replace hB0 := hB0.trans (hb7.mono hB0.size)
  clear hb7
  go_loopw [59] (fun i wr => ∃ j : Nat, j ≤ l.length ∧ i = .int .i64 j ∧ Below v7.heap.size v7 wr) (fun i _ => l.length - (intOf i).toNat)
  case atStart => exact ⟨0, by omega, rfl, Below.refl _ _⟩
  case round =>
    obtain ⟨j, hj, rfl, hbr⟩ := hrel
    by_cases hjl : j < l.length
    case pos =>
      obtain ⟨x, hx⟩ : ∃ x, l[j]? = some x := ⟨_, List.getElem?_eq_getElem hjl⟩
      obtain ⟨bo, oo, rfl, hatO⟩ := (HO.out.below hbr).at hx
      obtain ⟨bs, os, rfl, hatS⟩ := (HS.out.below hbr).at hx
      replace hatO : VecAt wr bo (oo + j * 16) x := hatO
      replace hatS : VecAt wr bs (os + j * 16) x := hatS
      have hj1 : (j : Int) < (l.length : Int) := by omega
      have hj0 : (0 : Int) ≤ (j : Int) := by omega
      clear hx
      go_wp2_with fail
      refine wp_held (fun W1 => Below wr.heap.size wr W1) (by kernel_rfl) ?_
      have hS0 : Below wr.heap.size wr wr.drew := (Below.refl _ wr).drew
      refine wpAnyH_next (i := 0) (v := .slice (some ⟨bo, oo, none⟩) l.length c5) rfl (by kernel_rfl) (by kernel_rfl) (by kernel_rfl) (fun _ _ _ h => h) (by kernel_rfl) (fun W1 hW1 => by go_simp; done) hS0 (fun a' ha' => ?_)
      simp only [Act.put, List.getElem_toArray, List.getElem_cons_zero, List.setIfInBounds_toArray, List.set_cons_succ, List.set_cons_zero] at ha'
      subst ha'
      refine wpAnyH_next (i := 1) (v := .int .i64 (j : Int)) rfl (by kernel_rfl) (by kernel_rfl) (by kernel_rfl) (fun _ _ _ h => h) (by kernel_rfl) (fun W1 hW1 => by go_simp; done) hS0 (fun a' ha' => ?_)
      simp only [Act.put, List.getElem_toArray, List.getElem_cons_succ, List.getElem_cons_zero, List.setIfInBounds_toArray, List.set_cons_succ, List.set_cons_zero] at ha'
      subst ha'
      refine wpAnyH_next (i := 2) (v := .pointer (some ⟨bo, oo + j * 16, none⟩)) rfl (by kernel_rfl) (by kernel_rfl) (by kernel_rfl) (fun _ _ _ h => h) (by kernel_rfl) (fun W1 hW1 => by go_simp; done) hS0 (fun a' ha' => ?_)
      simp only [Act.put, List.getElem_toArray, List.getElem_cons_succ, List.getElem_cons_zero, List.setIfInBounds_toArray, List.set_cons_succ, List.set_cons_zero] at ha'
      subst ha'
      refine wpAnyH_next (i := 3) (v := VecV x) rfl (by kernel_rfl) (by kernel_rfl) (by kernel_rfl) (fun _ _ _ h => h) (by kernel_rfl) (fun W1 hW1 => by exact exec_load_vec rfl rfl (hatO.below hW1)) hS0 (fun a' ha' => ?_)
      simp only [Act.put, List.getElem_toArray, List.getElem_cons_succ, List.getElem_cons_zero, List.setIfInBounds_toArray, List.set_cons_succ, List.set_cons_zero] at ha'
      subst ha'
      refine wpAnyH_next (i := 4) (v := .slice (some ⟨bs, os, none⟩) l.length cap) rfl (by kernel_rfl) (by kernel_rfl) (by kernel_rfl) (fun _ _ _ h => h) (by kernel_rfl) (fun W1 hW1 => by go_simp; done) hS0 (fun a' ha' => ?_)
      simp only [Act.put, List.getElem_toArray, List.getElem_cons_succ, List.getElem_cons_zero, List.setIfInBounds_toArray, List.set_cons_succ, List.set_cons_zero] at ha'
      subst ha'
      refine wpAnyH_next (i := 5) (v := .int .i64 (j : Int)) rfl (by kernel_rfl) (by kernel_rfl) (by kernel_rfl) (fun _ _ _ h => h) (by kernel_rfl) (fun W1 hW1 => by go_simp; done) hS0 (fun a' ha' => ?_)
      simp only [Act.put, List.getElem_toArray, List.getElem_cons_succ, List.getElem_cons_zero, List.setIfInBounds_toArray, List.set_cons_succ, List.set_cons_zero] at ha'
      subst ha'
      refine wpAnyH_next (i := 6) (v := .pointer (some ⟨bs, os + j * 16, none⟩)) rfl (by kernel_rfl) (by kernel_rfl) (by kernel_rfl) (fun _ _ _ h => h) (by kernel_rfl) (fun W1 hW1 => by go_simp; done) hS0 (fun a' ha' => ?_)
      simp only [Act.put, List.getElem_toArray, List.getElem_cons_succ, List.getElem_cons_zero, List.setIfInBounds_toArray, List.set_cons_succ, List.set_cons_zero] at ha'
      subst ha'
      refine wpAnyH_next (i := 7) (v := VecV x) rfl (by kernel_rfl) (by kernel_rfl) (by kernel_rfl) (fun _ _ _ h => h) (by kernel_rfl) (fun W1 hW1 => by exact exec_load_vec rfl rfl (hatS.below hW1)) hS0 (fun a' ha' => ?_)
      simp only [Act.put, List.getElem_toArray, List.getElem_cons_succ, List.getElem_cons_zero, List.setIfInBounds_toArray, List.set_cons_succ, List.set_cons_zero] at ha'
      subst ha'
      refine wpAnyH_next (i := 8) (v := .bool false) rfl (by kernel_rfl) (by kernel_rfl) (by kernel_rfl) (fun _ _ _ h => h) (by kernel_rfl) (fun W1 hW1 => by exact exec_neq_vec rfl rfl rfl (by rw [decide_eq_true rfl]; rfl)) hS0 (fun a' ha' => ?_)
      simp only [Act.put, List.getElem_toArray, List.getElem_cons_succ, List.getElem_cons_zero, List.setIfInBounds_toArray, List.set_cons_succ, List.set_cons_zero] at ha'
      subst ha'
      refine wpAnyH_fin (by kernel_rfl) ?_ _
      go_wp2_with fail
      go_roundw
      case rel => exact ⟨j + 1, by omega, by go_num, hbr.drew⟩
      case measure => simp [intOf]; omega
    case neg =>
      obtain rfl : j = l.length := by omega
      replace bA := bA.below hbr
      replace bB := bB.below hbr
      replace b15 := b15.below hbr
      replace b17 := b17.below hbr
      replace b20 := b20.below hbr
      replace b21 := b21.below hbr
      replace g1 := cellOn hbr g1
      replace g2 := cellOn hbr g2
      replace p1 := cellOn hbr p1
      replace q1 := cellOn hbr q1
      replace p2 := cellOn hbr p2
      replace q2 := cellOn hbr q2
      replace HS := Lib.hid (HS.out.below hbr)
      replace HO := Lib.hid (HO.out.below hbr)
      replace hB0 := hB0.trans (hbr.mono hB0.size)
      clear hbr HO
      go_wp2_with fail
      simp only [List.append_eq, List.cons_append, List.nil_append]
      refine wp_held (fun W1 => Below wr.heap.size wr W1) (by kernel_rfl) ?_
      have hS0 : Below wr.heap.size wr wr.drew := (Below.refl _ wr).drew
      refine wpAnyH_next (i := 0) (v := DotV n1 n2) rfl (by kernel_rfl) (by kernel_rfl) (by kernel_rfl) (fun _ _ _ h => h) (by kernel_rfl) (fun W1 hW1 => by have e1 := cellOn hW1 p1; have e2 := cellOn hW1 q1; go_simp; done) hS0 (fun a' ha' => ?_)
      simp only [Act.put, List.getElem_toArray, List.getElem_cons_zero, List.setIfInBounds_toArray, List.set_cons_succ, List.set_cons_zero] at ha'
      subst ha'
      refine wpAnyH_next (i := 1) (v := DotV n1 n2) rfl (by kernel_rfl) (by kernel_rfl) (by kernel_rfl) (fun _ _ _ h => h) (by kernel_rfl) (fun W1 hW1 => by have e1 := cellOn hW1 p2; have e2 := cellOn hW1 q2; go_simp; done) hS0 (fun a' ha' => ?_)
      simp only [Act.put, List.getElem_toArray, List.getElem_cons_succ, List.getElem_cons_zero, List.setIfInBounds_toArray, List.set_cons_succ, List.set_cons_zero] at ha'
      subst ha'
      refine wpAnyH_next (i := 2) (v := .bool true) rfl (by kernel_rfl) (by kernel_rfl) (by kernel_rfl) (fun _ _ _ h => h) (by kernel_rfl) (fun W1 hW1 => by first | (go_simp; done) | (simp; done) | (go_simp; simp; done)) hS0 (fun a' ha' => ?_)
      simp only [Act.put, List.getElem_toArray, List.getElem_cons_succ, List.getElem_cons_zero, List.setIfInBounds_toArray, List.set_cons_succ, List.set_cons_zero] at ha'
      subst ha'
      refine wpAnyH_next (i := 3) (v := .bool true) rfl (by kernel_rfl) (by kernel_rfl) (by kernel_rfl) (fun _ _ _ h => h) (by kernel_rfl) (fun W1 hW1 => by go_simp; done) hS0 (fun a' ha' => ?_)
      simp only [Act.put, List.getElem_toArray, List.getElem_cons_succ, List.getElem_cons_zero, List.setIfInBounds_toArray, List.set_cons_succ, List.set_cons_zero] at ha'
      subst ha'
      refine wpAnyH_next (i := 4) (v := .int .i64 ne) rfl (by kernel_rfl) (by kernel_rfl) (by kernel_rfl) (fun _ _ _ h => h) (by kernel_rfl) (fun W1 hW1 => by go_simp; done) hS0 (fun a' ha' => ?_)
      simp only [Act.put, List.getElem_toArray, List.getElem_cons_succ, List.getElem_cons_zero, List.setIfInBounds_toArray, List.set_cons_succ, List.set_cons_zero] at ha'
      subst ha'
      refine wpAnyH_next (i := 5) (v := .int .i64 ne) rfl (by kernel_rfl) (by kernel_rfl) (by kernel_rfl) (fun _ _ _ h => h) (by kernel_rfl) (fun W1 hW1 => by go_simp; done) hS0 (fun a' ha' => ?_)
      simp only [Act.put, List.getElem_toArray, List.getElem_cons_succ, List.getElem_cons_zero, List.setIfInBounds_toArray, List.set_cons_succ, List.set_cons_zero] at ha'
      subst ha'
      refine wpAnyH_next (i := 6) (v := .bool true) rfl (by kernel_rfl) (by kernel_rfl) (by kernel_rfl) (fun _ _ _ h => h) (by kernel_rfl) (fun W1 hW1 => by first | (go_simp; done) | (simp; done) | (go_simp; simp; done)) hS0 (fun a' ha' => ?_)
      simp only [Act.put, List.getElem_toArray, List.getElem_cons_succ, List.getElem_cons_zero, List.setIfInBounds_toArray, List.set_cons_succ, List.set_cons_zero] at ha'
      subst ha'
      refine wpAnyH_next (i := 7) (v := .bool true) rfl (by kernel_rfl) (by kernel_rfl) (by kernel_rfl) (fun _ _ _ h => h) (by kernel_rfl) (fun W1 hW1 => by go_simp; done) hS0 (fun a' ha' => ?_)
      simp only [Act.put, List.getElem_toArray, List.getElem_cons_succ, List.getElem_cons_zero, List.setIfInBounds_toArray, List.set_cons_succ, List.set_cons_zero] at ha'
      subst ha'
      refine wpAnyH_next (i := 8) (v := .bool true) rfl (by kernel_rfl) (by kernel_rfl) (by kernel_rfl) (fun _ _ _ h => h) (by kernel_rfl) (fun W1 hW1 => by go_simp; done) hS0 (fun a' ha' => ?_)
      simp only [Act.put, List.getElem_toArray, List.getElem_cons_succ, List.getElem_cons_zero, List.setIfInBounds_toArray, List.set_cons_succ, List.set_cons_zero] at ha'
      subst ha'
      refine wpAnyH_next (i := 9) (v := VecV V) rfl (by kernel_rfl) (by kernel_rfl) (by kernel_rfl) (fun _ _ _ h => h) (by kernel_rfl) (fun W1 hW1 => by exact exec_load_vec rfl rfl ((b15.below hW1).at)) hS0 (fun a' ha' => ?_)
      simp only [Act.put, List.getElem_toArray, List.getElem_cons_succ, List.getElem_cons_zero, List.setIfInBounds_toArray, List.set_cons_succ, List.set_cons_zero] at ha'
      subst ha'
      refine wpAnyH_next (i := 10) (v := VecV V) rfl (by kernel_rfl) (by kernel_rfl) (by kernel_rfl) (fun _ _ _ h => h) (by kernel_rfl) (fun W1 hW1 => by exact exec_load_vec rfl rfl ((b17.below hW1).at)) hS0 (fun a' ha' => ?_)
      simp only [Act.put, List.getElem_toArray, List.getElem_cons_succ, List.getElem_cons_zero, List.setIfInBounds_toArray, List.set_cons_succ, List.set_cons_zero] at ha'
      subst ha'
      refine wpAnyH_next (i := 11) (v := .bool true) rfl (by kernel_rfl) (by kernel_rfl) (by kernel_rfl) (fun _ _ _ h => h) (by kernel_rfl) (fun W1 hW1 => by exact exec_eql_vec rfl rfl rfl (decide_eq_true rfl)) hS0 (fun a' ha' => ?_)
      simp only [Act.put, List.getElem_toArray, List.getElem_cons_succ, List.getElem_cons_zero, List.setIfInBounds_toArray, List.set_cons_succ, List.set_cons_zero] at ha'
      subst ha'
      refine wpAnyH_next (i := 12) (v := .bool true) rfl (by kernel_rfl) (by kernel_rfl) (by kernel_rfl) (fun _ _ _ h => h) (by kernel_rfl) (fun W1 hW1 => by go_simp; done) hS0 (fun a' ha' => ?_)
      simp only [Act.put, List.getElem_toArray, List.getElem_cons_succ, List.getElem_cons_zero, List.setIfInBounds_toArray, List.set_cons_succ, List.set_cons_zero] at ha'
      subst ha'
      refine wpAnyH_next (i := 13) (v := .bool true) rfl (by kernel_rfl) (by kernel_rfl) (by kernel_rfl) (fun _ _ _ h => h) (by kernel_rfl) (fun W1 hW1 => by go_simp; done) hS0 (fun a' ha' => ?_)
      simp only [Act.put, List.getElem_toArray, List.getElem_cons_succ, List.getElem_cons_zero, List.setIfInBounds_toArray, List.set_cons_succ, List.set_cons_zero] at ha'
      subst ha'
      refine wpAnyH_next (i := 14) (v := .int .i64 ve) rfl (by kernel_rfl) (by kernel_rfl) (by kernel_rfl) (fun _ _ _ h => h) (by kernel_rfl) (fun W1 hW1 => by go_simp; done) hS0 (fun a' ha' => ?_)
      simp only [Act.put, List.getElem_toArray, List.getElem_cons_succ, List.getElem_cons_zero, List.setIfInBounds_toArray, List.set_cons_succ, List.set_cons_zero] at ha'
      subst ha'
      refine wpAnyH_next (i := 15) (v := .int .i64 ve) rfl (by kernel_rfl) (by kernel_rfl) (by kernel_rfl) (fun _ _ _ h => h) (by kernel_rfl) (fun W1 hW1 => by go_simp; done) hS0 (fun a' ha' => ?_)
      simp only [Act.put, List.getElem_toArray, List.getElem_cons_succ, List.getElem_cons_zero, List.setIfInBounds_toArray, List.set_cons_succ, List.set_cons_zero] at ha'
      subst ha'
      refine wpAnyH_next (i := 16) (v := .bool true) rfl (by kernel_rfl) (by kernel_rfl) (by kernel_rfl) (fun _ _ _ h => h) (by kernel_rfl) (fun W1 hW1 => by first | (go_simp; done) | (simp; done) | (go_simp; simp; done)) hS0 (fun a' ha' => ?_)
      simp only [Act.put, List.getElem_toArray, List.getElem_cons_succ, List.getElem_cons_zero, List.setIfInBounds_toArray, List.set_cons_succ, List.set_cons_zero] at ha'
      subst ha'
      refine wpAnyH_next (i := 17) (v := .bool true) rfl (by kernel_rfl) (by kernel_rfl) (by kernel_rfl) (fun _ _ _ h => h) (by kernel_rfl) (fun W1 hW1 => by go_simp; done) hS0 (fun a' ha' => ?_)
      simp only [Act.put, List.getElem_toArray, List.getElem_cons_succ, List.getElem_cons_zero, List.setIfInBounds_toArray, List.set_cons_succ, List.set_cons_zero] at ha'
      subst ha'
      refine wpAnyH_next (i := 18) (v := .bool true) rfl (by kernel_rfl) (by kernel_rfl) (by kernel_rfl) (fun _ _ _ h => h) (by kernel_rfl) (fun W1 hW1 => by go_simp; done) hS0 (fun a' ha' => ?_)
      simp only [Act.put, List.getElem_toArray, List.getElem_cons_succ, List.getElem_cons_zero, List.setIfInBounds_toArray, List.set_cons_succ, List.set_cons_zero] at ha'
      subst ha'
      refine wpAnyH_next (i := 19) (v := VecV M) rfl (by kernel_rfl) (by kernel_rfl) (by kernel_rfl) (fun _ _ _ h => h) (by kernel_rfl) (fun W1 hW1 => by exact exec_load_vec rfl rfl ((b20.below hW1).at)) hS0 (fun a' ha' => ?_)
      simp only [Act.put, List.getElem_toArray, List.getElem_cons_succ, List.getElem_cons_zero, List.setIfInBounds_toArray, List.set_cons_succ, List.set_cons_zero] at ha'
      subst ha'
      refine wpAnyH_next (i := 20) (v := .slice A l.length cap) rfl (by kernel_rfl) (by kernel_rfl) (by kernel_rfl) (fun _ _ _ h => h) (by kernel_rfl) (fun W1 hW1 => by go_simp; done) hS0 (fun a' ha' => ?_)
      simp only [Act.put, List.getElem_toArray, List.getElem_cons_succ, List.getElem_cons_zero, List.setIfInBounds_toArray, List.set_cons_succ, List.set_cons_zero] at ha'
      subst ha'
      refine wpAnyH_want (i := 21) (by kernel_rfl) rfl (by kernel_rfl) (fun K hK => ?_)
      unfold Oper.wp
      go_simp
      refine (CM'.out _ _ (HS.out.below hS0)).mono ?_
      rintro e z1 ⟨rfl, hz1⟩
      have hSz1 : Below wr.heap.size wr z1 := hS0.trans (hz1.mono hS0.size)
      clear hz1
      refine hK _ _ hSz1 ?_
      clear hK K
      refine wpAnyH_next (i := 22) (v := .bool true) rfl (by kernel_rfl) (by kernel_rfl) (by kernel_rfl) (fun _ _ _ h => h) (by kernel_rfl) (fun W1 hW1 => by exact exec_eql_vec rfl rfl rfl (decide_eq_true rfl)) hSz1 (fun a' ha' => ?_)
      simp only [Act.put, List.getElem_toArray, List.getElem_cons_succ, List.getElem_cons_zero, List.setIfInBounds_toArray, List.set_cons_succ, List.set_cons_zero] at ha'
      subst ha'
      refine wpAnyH_next (i := 23) (v := .bool true) rfl (by kernel_rfl) (by kernel_rfl) (by kernel_rfl) (fun _ _ _ h => h) (by kernel_rfl) (fun W1 hW1 => by go_simp; done) hSz1 (fun a' ha' => ?_)
      simp only [Act.put, List.getElem_toArray, List.getElem_cons_succ, List.getElem_cons_zero, List.setIfInBounds_toArray, List.set_cons_succ, List.set_cons_zero] at ha'
      subst ha'
      refine wpAnyH_next (i := 24) (v := .bool true) rfl (by kernel_rfl) (by kernel_rfl) (by kernel_rfl) (fun _ _ _ h => h) (by kernel_rfl) (fun W1 hW1 => by go_simp; done) hSz1 (fun a' ha' => ?_)
      simp only [Act.put, List.getElem_toArray, List.getElem_cons_succ, List.getElem_cons_zero, List.setIfInBounds_toArray, List.set_cons_succ, List.set_cons_zero] at ha'
      subst ha'
      refine wpAnyH_next (i := 25) (v := VecV T) rfl (by kernel_rfl) (by kernel_rfl) (by kernel_rfl) (fun _ _ _ h => h) (by kernel_rfl) (fun W1 hW1 => by exact exec_load_vec rfl rfl ((b21.below hW1).at)) hSz1 (fun a' ha' => ?_)
      simp only [Act.put, List.getElem_toArray, List.getElem_cons_succ, List.getElem_cons_zero, List.setIfInBounds_toArray, List.set_cons_succ, List.set_cons_zero] at ha'
      subst ha'
      refine wpAnyH_next (i := 26) (v := .slice A l.length cap) rfl (by kernel_rfl) (by kernel_rfl) (by kernel_rfl) (fun _ _ _ h => h) (by kernel_rfl) (fun W1 hW1 => by go_simp; done) hSz1 (fun a' ha' => ?_)
      simp only [Act.put, List.getElem_toArray, List.getElem_cons_succ, List.getElem_cons_zero, List.setIfInBounds_toArray, List.set_cons_succ, List.set_cons_zero] at ha'
      subst ha'
      refine wpAnyH_want (i := 27) (by kernel_rfl) rfl (by kernel_rfl) (fun K hK => ?_)
      unfold Oper.wp
      go_simp
      refine (CT'.out _ _ (HS.out.below hSz1)).mono ?_
      rintro e z2 ⟨rfl, hz2⟩
      have hSz2 : Below wr.heap.size wr z2 := hSz1.trans (hz2.mono hSz1.size)
      clear hz2
      refine hK _ _ hSz2 ?_
      clear hK K
      refine wpAnyH_next (i := 28) (v := .bool true) rfl (by kernel_rfl) (by kernel_rfl) (by kernel_rfl) (fun _ _ _ h => h) (by kernel_rfl) (fun W1 hW1 => by exact exec_eql_vec rfl rfl rfl (decide_eq_true rfl)) hSz2 (fun a' ha' => ?_)
      simp only [Act.put, List.getElem_toArray, List.getElem_cons_succ, List.getElem_cons_zero, List.setIfInBounds_toArray, List.set_cons_succ, List.set_cons_zero] at ha'
      subst ha'
      refine wpAnyH_next (i := 29) (v := .bool true) rfl (by kernel_rfl) (by kernel_rfl) (by kernel_rfl) (fun _ _ _ h => h) (by kernel_rfl) (fun W1 hW1 => by go_simp; done) hSz2 (fun a' ha' => ?_)
      simp only [Act.put, List.getElem_toArray, List.getElem_cons_succ, List.getElem_cons_zero, List.setIfInBounds_toArray, List.set_cons_succ, List.set_cons_zero] at ha'
      subst ha'
      refine wpAnyH_next (i := 30) (v := .bool true) rfl (by kernel_rfl) (by kernel_rfl) (by kernel_rfl) (fun _ _ _ h => h) (by kernel_rfl) (fun W1 hW1 => by go_simp; done) hSz2 (fun a' ha' => ?_)
      simp only [Act.put, List.getElem_toArray, List.getElem_cons_succ, List.getElem_cons_zero, List.setIfInBounds_toArray, List.set_cons_succ, List.set_cons_zero] at ha'
      subst ha'
      refine wpAnyH_next (i := 31) (v := VecV a) rfl (by kernel_rfl) (by kernel_rfl) (by kernel_rfl) (fun _ _ _ h => h) (by kernel_rfl) (fun W1 hW1 => by exact exec_load_vec rfl rfl ((bA.below hW1).at)) hSz2 (fun a' ha' => ?_)
      simp only [Act.put, List.getElem_toArray, List.getElem_cons_succ, List.getElem_cons_zero, List.setIfInBounds_toArray, List.set_cons_succ, List.set_cons_zero] at ha'
      subst ha'
      refine wpAnyH_next (i := 32) (v := DotV s c) rfl (by kernel_rfl) (by kernel_rfl) (by kernel_rfl) (fun _ _ _ h => h) (by kernel_rfl) (fun W1 hW1 => by have e1 := cellOn hW1 g1; have e2 := cellOn hW1 g2; go_simp; done) hSz2 (fun a' ha' => ?_)
      simp only [Act.put, List.getElem_toArray, List.getElem_cons_succ, List.getElem_cons_zero, List.setIfInBounds_toArray, List.set_cons_succ, List.set_cons_zero] at ha'
      subst ha'
      refine wpAnyH_next (i := 34) (v := VecV a) rfl (by kernel_rfl) (by kernel_rfl) (by kernel_rfl) (fun _ _ _ h => h) (by kernel_rfl) (fun W1 hW1 => by exact exec_load_vec rfl rfl ((bA.below hW1).at)) hSz2 (fun a' ha' => ?_)
      simp only [Act.put, List.getElem_toArray, List.getElem_cons_succ, List.getElem_cons_zero, List.setIfInBounds_toArray, List.set_cons_succ, List.set_cons_zero] at ha'
      subst ha'
      refine wpAnyH_next (i := 35) (v := DotV s c) rfl (by kernel_rfl) (by kernel_rfl) (by kernel_rfl) (fun _ _ _ h => h) (by kernel_rfl) (fun W1 hW1 => by have e1 := cellOn hW1 g1; have e2 := cellOn hW1 g2; go_simp; done) hSz2 (fun a' ha' => ?_)
      simp only [Act.put, List.getElem_toArray, List.getElem_cons_succ, List.getElem_cons_zero, List.setIfInBounds_toArray, List.set_cons_succ, List.set_cons_zero] at ha'
      subst ha'
      refine wpAnyH_want (i := 33) (by kernel_rfl) rfl (by kernel_rfl) (fun K hK => ?_)
      unfold Oper.wp
      go_simp
      refine (CH.out _).mono ?_
      rintro e z3 ⟨rfl, hz3⟩
      have hSz3 : Below wr.heap.size wr z3 := hSz2.trans (hz3.mono hSz2.size)
      clear hz3
      refine hK _ _ hSz3 ?_
      clear hK K
      refine wpAnyH_want (i := 36) (by kernel_rfl) rfl (by kernel_rfl) (fun K hK => ?_)
      unfold Oper.wp
      go_simp
      refine (CH'.out _).mono ?_
      rintro e z4 ⟨rfl, hz4⟩
      have hSz4 : Below wr.heap.size wr z4 := hSz3.trans (hz4.mono hSz3.size)
      clear hz4
      refine hK _ _ hSz4 ?_
      clear hK K
      refine wpAnyH_next (i := 37) (v := .bool true) rfl (by kernel_rfl) (by kernel_rfl) (by kernel_rfl) (fun _ _ _ h => h) (by kernel_rfl) (fun W1 hW1 => by first | (go_simp; done) | (simp; done) | (go_simp; simp; done)) hSz4 (fun a' ha' => ?_)
      simp only [Act.put, List.getElem_toArray, List.getElem_cons_succ, List.getElem_cons_zero, List.setIfInBounds_toArray, List.set_cons_succ, List.set_cons_zero] at ha'
      subst ha'
      refine wpAnyH_next (i := 38) (v := .bool true) rfl (by kernel_rfl) (by kernel_rfl) (by kernel_rfl) (fun _ _ _ h => h) (by kernel_rfl) (fun W1 hW1 => by go_simp; done) hSz4 (fun a' ha' => ?_)
      simp only [Act.put, List.getElem_toArray, List.getElem_cons_succ, List.getElem_cons_zero, List.setIfInBounds_toArray, List.set_cons_succ, List.set_cons_zero] at ha'
      subst ha'
      refine wpAnyH_next (i := 39) (v := .bool true) rfl (by kernel_rfl) (by kernel_rfl) (by kernel_rfl) (fun _ _ _ h => h) (by kernel_rfl) (fun W1 hW1 => by go_simp; done) hSz4 (fun a' ha' => ?_)
      simp only [Act.put, List.getElem_toArray, List.getElem_cons_succ, List.getElem_cons_zero, List.setIfInBounds_toArray, List.set_cons_succ, List.set_cons_zero] at ha'
      subst ha'
      refine wpAnyH_next (i := 40) (v := VecV a) rfl (by kernel_rfl) (by kernel_rfl) (by kernel_rfl) (fun _ _ _ h => h) (by kernel_rfl) (fun W1 hW1 => by exact exec_load_vec rfl rfl ((bA.below hW1).at)) hSz4 (fun a' ha' => ?_)
      simp only [Act.put, List.getElem_toArray, List.getElem_cons_succ, List.getElem_cons_zero, List.setIfInBounds_toArray, List.set_cons_succ, List.set_cons_zero] at ha'
      subst ha'
      refine wpAnyH_next (i := 41) (v := VecV b) rfl (by kernel_rfl) (by kernel_rfl) (by kernel_rfl) (fun _ _ _ h => h) (by kernel_rfl) (fun W1 hW1 => by exact exec_load_vec rfl rfl ((bB.below hW1).at)) hSz4 (fun a' ha' => ?_)
      simp only [Act.put, List.getElem_toArray, List.getElem_cons_succ, List.getElem_cons_zero, List.setIfInBounds_toArray, List.set_cons_succ, List.set_cons_zero] at ha'
      subst ha'
      refine wpAnyH_next (i := 43) (v := VecV a) rfl (by kernel_rfl) (by kernel_rfl) (by kernel_rfl) (fun _ _ _ h => h) (by kernel_rfl) (fun W1 hW1 => by exact exec_load_vec rfl rfl ((bA.below hW1).at)) hSz4 (fun a' ha' => ?_)
      simp only [Act.put, List.getElem_toArray, List.getElem_cons_succ, List.getElem_cons_zero, List.setIfInBounds_toArray, List.set_cons_succ, List.set_cons_zero] at ha'
      subst ha'
      refine wpAnyH_next (i := 44) (v := VecV b) rfl (by kernel_rfl) (by kernel_rfl) (by kernel_rfl) (fun _ _ _ h => h) (by kernel_rfl) (fun W1 hW1 => by exact exec_load_vec rfl rfl ((bB.below hW1).at)) hSz4 (fun a' ha' => ?_)
      simp only [Act.put, List.getElem_toArray, List.getElem_cons_succ, List.getElem_cons_zero, List.setIfInBounds_toArray, List.set_cons_succ, List.set_cons_zero] at ha'
      subst ha'
      refine wpAnyH_want (i := 42) (by kernel_rfl) rfl (by kernel_rfl) (fun K hK => ?_)
      unfold Oper.wp
      go_simp
      refine (CL.out _).mono ?_
      rintro e z5 ⟨rfl, hz5⟩
      have hSz5 : Below wr.heap.size wr z5 := hSz4.trans (hz5.mono hSz4.size)
      clear hz5
      refine hK _ _ hSz5 ?_
      clear hK K
      refine wpAnyH_want (i := 45) (by kernel_rfl) rfl (by kernel_rfl) (fun K hK => ?_)
      unfold Oper.wp
      go_simp
      refine (CL'.out _).mono ?_
      rintro e z6 ⟨rfl, hz6⟩
      have hSz6 : Below wr.heap.size wr z6 := hSz5.trans (hz6.mono hSz5.size)
      clear hz6
      refine hK _ _ hSz6 ?_
      clear hK K
      refine wpAnyH_next (i := 46) (v := .bool true) rfl (by kernel_rfl) (by kernel_rfl) (by kernel_rfl) (fun _ _ _ h => h) (by kernel_rfl) (fun W1 hW1 => by first | (go_simp; done) | (simp; done) | (go_simp; simp; done)) hSz6 (fun a' ha' => ?_)
      simp only [Act.put, List.getElem_toArray, List.getElem_cons_succ, List.getElem_cons_zero, List.setIfInBounds_toArray, List.set_cons_succ, List.set_cons_zero] at ha'
      subst ha'
      refine wpAnyH_next (i := 47) (v := .bool true) rfl (by kernel_rfl) (by kernel_rfl) (by kernel_rfl) (fun _ _ _ h => h) (by kernel_rfl) (fun W1 hW1 => by go_simp; done) hSz6 (fun a' ha' => ?_)
      simp only [Act.put, List.getElem_toArray, List.getElem_cons_succ, List.getElem_cons_zero, List.setIfInBounds_toArray, List.set_cons_succ, List.set_cons_zero] at ha'
      subst ha'
      refine wpAnyH_next (i := 48) (v := .bool true) rfl (by kernel_rfl) (by kernel_rfl) (by kernel_rfl) (fun _ _ _ h => h) (by kernel_rfl) (fun W1 hW1 => by go_simp; done) hSz6 (fun a' ha' => ?_)
      simp only [Act.put, List.getElem_toArray, List.getElem_cons_succ, List.getElem_cons_zero, List.setIfInBounds_toArray, List.set_cons_succ, List.set_cons_zero] at ha'
      subst ha'
      refine wpAnyH_next (i := 49) (v := VecV a) rfl (by kernel_rfl) (by kernel_rfl) (by kernel_rfl) (fun _ _ _ h => h) (by kernel_rfl) (fun W1 hW1 => by exact exec_load_vec rfl rfl ((bA.below hW1).at)) hSz6 (fun a' ha' => ?_)
      simp only [Act.put, List.getElem_toArray, List.getElem_cons_succ, List.getElem_cons_zero, List.setIfInBounds_toArray, List.set_cons_succ, List.set_cons_zero] at ha'
      subst ha'
      refine wpAnyH_next (i := 50) (v := VecV b) rfl (by kernel_rfl) (by kernel_rfl) (by kernel_rfl) (fun _ _ _ h => h) (by kernel_rfl) (fun W1 hW1 => by exact exec_load_vec rfl rfl ((bB.below hW1).at)) hSz6 (fun a' ha' => ?_)
      simp only [Act.put, List.getElem_toArray, List.getElem_cons_succ, List.getElem_cons_zero, List.setIfInBounds_toArray, List.set_cons_succ, List.set_cons_zero] at ha'
      subst ha'
      refine wpAnyH_next (i := 52) (v := VecV a) rfl (by kernel_rfl) (by kernel_rfl) (by kernel_rfl) (fun _ _ _ h => h) (by kernel_rfl) (fun W1 hW1 => by exact exec_load_vec rfl rfl ((bA.below hW1).at)) hSz6 (fun a' ha' => ?_)
      simp only [Act.put, List.getElem_toArray, List.getElem_cons_succ, List.getElem_cons_zero, List.setIfInBounds_toArray, List.set_cons_succ, List.set_cons_zero] at ha'
      subst ha'
      refine wpAnyH_next (i := 53) (v := VecV b) rfl (by kernel_rfl) (by kernel_rfl) (by kernel_rfl) (fun _ _ _ h => h) (by kernel_rfl) (fun W1 hW1 => by exact exec_load_vec rfl rfl ((bB.below hW1).at)) hSz6 (fun a' ha' => ?_)
      simp only [Act.put, List.getElem_toArray, List.getElem_cons_succ, List.getElem_cons_zero, List.setIfInBounds_toArray, List.set_cons_succ, List.set_cons_zero] at ha'
      subst ha'
      refine wpAnyH_want (i := 51) (by kernel_rfl) rfl (by kernel_rfl) (fun K hK => ?_)
      unfold Oper.wp
      go_simp
      refine (CC.out _).mono ?_
      rintro e z7 ⟨rfl, hz7⟩
      have hSz7 : Below wr.heap.size wr z7 := hSz6.trans (hz7.mono hSz6.size)
      clear hz7
      refine hK _ _ hSz7 ?_
      clear hK K
      refine wpAnyH_want (i := 54) (by kernel_rfl) rfl (by kernel_rfl) (fun K hK => ?_)
      unfold Oper.wp
      go_simp
      refine (CC'.out _).mono ?_
      rintro e z8 ⟨rfl, hz8⟩
      have hSz8 : Below wr.heap.size wr z8 := hSz7.trans (hz8.mono hSz7.size)
      clear hz8
      refine hK _ _ hSz8 ?_
      clear hK K
      refine wpAnyH_next (i := 55) (v := .bool true) rfl (by kernel_rfl) (by kernel_rfl) (by kernel_rfl) (fun _ _ _ h => h) (by kernel_rfl) (fun W1 hW1 => by first | (go_simp; done) | (simp; done) | (go_simp; simp; done)) hSz8 (fun a' ha' => ?_)
      simp only [Act.put, List.getElem_toArray, List.getElem_cons_succ, List.getElem_cons_zero, List.setIfInBounds_toArray, List.set_cons_succ, List.set_cons_zero] at ha'
      subst ha'
      refine wpAnyH_next (i := 56) (v := .bool true) rfl (by kernel_rfl) (by kernel_rfl) (by kernel_rfl) (fun _ _ _ h => h) (by kernel_rfl) (fun W1 hW1 => by go_simp; done) hSz8 (fun a' ha' => ?_)
      simp only [Act.put, List.getElem_toArray, List.getElem_cons_succ, List.getElem_cons_zero, List.setIfInBounds_toArray, List.set_cons_succ, List.set_cons_zero] at ha'
      subst ha'
      refine wpAnyH_next (i := 57) (v := .bool true) rfl (by kernel_rfl) (by kernel_rfl) (by kernel_rfl) (fun _ _ _ h => h) (by kernel_rfl) (fun W1 hW1 => by go_simp; done) hSz8 (fun a' ha' => ?_)
      simp only [Act.put, List.getElem_toArray, List.getElem_cons_succ, List.getElem_cons_zero, List.setIfInBounds_toArray, List.set_cons_succ, List.set_cons_zero] at ha'
      subst ha'
      refine wpAnyH_next (i := 58) (v := VecV a) rfl (by kernel_rfl) (by kernel_rfl) (by kernel_rfl) (fun _ _ _ h => h) (by kernel_rfl) (fun W1 hW1 => by exact exec_load_vec rfl rfl ((bA.below hW1).at)) hSz8 (fun a' ha' => ?_)
      simp only [Act.put, List.getElem_toArray, List.getElem_cons_succ, List.getElem_cons_zero, List.setIfInBounds_toArray, List.set_cons_succ, List.set_cons_zero] at ha'
      subst ha'
      refine wpAnyH_next (i := 59) (v := VecV b) rfl (by kernel_rfl) (by kernel_rfl) (by kernel_rfl) (fun _ _ _ h => h) (by kernel_rfl) (fun W1 hW1 => by exact exec_load_vec rfl rfl ((bB.below hW1).at)) hSz8 (fun a' ha' => ?_)
      simp only [Act.put, List.getElem_toArray, List.getElem_cons_succ, List.getElem_cons_zero, List.setIfInBounds_toArray, List.set_cons_succ, List.set_cons_zero] at ha'
      subst ha'
      refine wpAnyH_next (i := 61) (v := VecV a) rfl (by kernel_rfl) (by kernel_rfl) (by kernel_rfl) (fun _ _ _ h => h) (by kernel_rfl) (fun W1 hW1 => by exact exec_load_vec rfl rfl ((bA.below hW1).at)) hSz8 (fun a' ha' => ?_)
      simp only [Act.put, List.getElem_toArray, List.getElem_cons_succ, List.getElem_cons_zero, List.setIfInBounds_toArray, List.set_cons_succ, List.set_cons_zero] at ha'
      subst ha'
      refine wpAnyH_next (i := 62) (v := VecV b) rfl (by kernel_rfl) (by kernel_rfl) (by kernel_rfl) (fun _ _ _ h => h) (by kernel_rfl) (fun W1 hW1 => by exact exec_load_vec rfl rfl ((bB.below hW1).at)) hSz8 (fun a' ha' => ?_)
      simp only [Act.put, List.getElem_toArray, List.getElem_cons_succ, List.getElem_cons_zero, List.setIfInBounds_toArray, List.set_cons_succ, List.set_cons_zero] at ha'
      subst ha'
      refine wpAnyH_want (i := 60) (by kernel_rfl) rfl (by kernel_rfl) (fun K hK => ?_)
      unfold Oper.wp
      go_simp
      refine (CK.out _).mono ?_
      rintro e z9 ⟨rfl, hz9⟩
      have hSz9 : Below wr.heap.size wr z9 := hSz8.trans (hz9.mono hSz8.size)
      clear hz9
      refine hK _ _ hSz9 ?_
      clear hK K
      refine wpAnyH_want (i := 63) (by kernel_rfl) rfl (by kernel_rfl) (fun K hK => ?_)
      unfold Oper.wp
      go_simp
      refine (CK'.out _).mono ?_
      rintro e z10 ⟨rfl, hz10⟩
      have hSz10 : Below wr.heap.size wr z10 := hSz9.trans (hz10.mono hSz9.size)
      clear hz10
      refine hK _ _ hSz10 ?_
      clear hK K
      refine wpAnyH_next (i := 64) (v := .bool true) rfl (by kernel_rfl) (by kernel_rfl) (by kernel_rfl) (fun _ _ _ h => h) (by kernel_rfl) (fun W1 hW1 => by first | (go_simp; done) | (simp; done) | (go_simp; simp; done)) hSz10 (fun a' ha' => ?_)
      simp only [Act.put, List.getElem_toArray, List.getElem_cons_succ, List.getElem_cons_zero, List.setIfInBounds_toArray, List.set_cons_succ, List.set_cons_zero] at ha'
      subst ha'
      refine wpAnyH_next (i := 65) (v := .bool true) rfl (by kernel_rfl) (by kernel_rfl) (by kernel_rfl) (fun _ _ _ h => h) (by kernel_rfl) (fun W1 hW1 => by go_simp; done) hSz10 (fun a' ha' => ?_)
      simp only [Act.put, List.getElem_toArray, List.getElem_cons_succ, List.getElem_cons_zero, List.setIfInBounds_toArray, List.set_cons_succ, List.set_cons_zero] at ha'
      subst ha'
      refine wpAnyH_next (i := 66) (v := .bool true) rfl (by kernel_rfl) (by kernel_rfl) (by kernel_rfl) (fun _ _ _ h => h) (by kernel_rfl) (fun W1 hW1 => by go_simp; done) hSz10 (fun a' ha' => ?_)
      simp only [Act.put, List.getElem_toArray, List.getElem_cons_succ, List.getElem_cons_zero, List.setIfInBounds_toArray, List.set_cons_succ, List.set_cons_zero] at ha'
      subst ha'
      refine wpAnyH_fin (by kernel_rfl) ?_ _

      go_wp2_with fail
      go_ret
      exact ⟨rfl, hB0.trans (hSz10.mono hB0.size)⟩
theorem asks_walk (W : World) (a b : Vc) (v : Value) (l : List Vc) (hs : Es eVec W v l) (_ : l.length ≤ 9223372036854775807) (s c k : Int) (_ : -9223372036854775808 ≤ k ∧ k ≤ 9223372036854775807) :
    Calls Try.prog 3 #[VecV a, VecV b, v, DotV s c, .int .i64 k] W fun e W' => e = .returned (.bool true) ∧ Below W.heap.size W W' := by
  obtain ⟨A, cap, rfl, _⟩ := hs.form
  exact asks_arg W a b A cap l hs s c k
end Go.Proofs.Ytbkbogblbniogaa
