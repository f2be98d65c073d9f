/- The walk of SumLaid. -/
import Derived.Test.YtbclhjcnopfegaaSumAlive
import Derived.Test.YtbclhjcnopfegaaDrawn
import Derived.Deep.Cut
import Derived.Deep.CutRange
import Derived.Deep.Light
namespace Go.Proofs.Ytbclhjcnopfegaa
open Go.RowKit

/-- Laid over one another. -/
def lay (a b : List UInt8) : List UInt8 := List.zipWith (· ^^^ ·) a b
theorem lay_length {a b : List UInt8} (h : a.length = b.length) : (lay a b).length = a.length := by simp [lay, h]
theorem le_lay : ∀ (a b : List UInt8), a.length = b.length → le (lay a b) = le a ^^^ le b := by
  intro a
  induction a with
  | nil => intro b h; simp at h; obtain rfl := List.eq_nil_of_length_eq_zero h.symm; rfl
  | cons x a ih =>
    intro b h
    cases b with
    | nil => simp at h
    | cons y b =>
      have h1 := ih b (by simpa using h)
      have h2 : lay (x :: a) (y :: b) = (x ^^^ y) :: lay a b := rfl
      have h3 := pow_mul_xor 8 (le a) (le b)
      rw [show (2 : Nat) ^ 8 = 256 from rfl] at h3
      rw [h2, le, le, le, h1, add_mul_xor (toNat_lt8 _), add_mul_xor (toNat_lt8 _), add_mul_xor (toNat_lt8 _), UInt8.toNat_xor, h3, xor_swap]
theorem crc_eq (bs : List UInt8) : crc bs = stepN (8 * bs.length) (4294967295 ^^^ le bs) ^^^ 4294967295 := by
  have h : crc bs = inv (over 4294967295 bs) := rfl
  rw [h, inv_xor (over_lt _ _ (by omega)), over_eq]
theorem xor_3 (a b c f : Nat) : (f ^^^ a) ^^^ (f ^^^ b) ^^^ (f ^^^ c) = f ^^^ (a ^^^ b ^^^ c) := by
  apply Nat.eq_of_testBit_eq
  intro i
  simp only [Nat.testBit_xor]
  cases a.testBit i <;> cases b.testBit i <;> cases c.testBit i <;> cases f.testBit i <;> rfl
/-- The sum of three messages, laid over one another. -/
theorem crc_lay {a b c : List UInt8} (h1 : a.length = b.length) (h2 : a.length = c.length) : crc (lay (lay a b) c) = crc a ^^^ crc b ^^^ crc c := by
  have hl : (lay a b).length = c.length := by rw [lay_length h1, h2]
  rw [crc_eq, crc_eq a, crc_eq b, crc_eq c, lay_length hl, lay_length h1, ← h1, ← h2, le_lay _ _ hl, le_lay _ _ h1]
  rw [← xor_3, stepN_xor, stepN_xor]
  generalize stepN (8 * a.length) (4294967295 ^^^ le a) = x
  generalize stepN (8 * a.length) (4294967295 ^^^ le b) = y
  generalize stepN (8 * a.length) (4294967295 ^^^ le c) = z
  generalize (4294967295 : Nat) = f
  apply Nat.eq_of_testBit_eq
  intro i
  simp only [Nat.testBit_xor]
  cases x.testBit i <;> cases y.testBit i <;> cases z.testBit i <;> cases f.testBit i <;> rfl

/-- A sum that goes on behind a beginning. -/
theorem on_parts {xs : List UInt8} {m k : Nat} (h : m ≤ k) : crcOn (crc (xs.take m)) ((xs.take k).drop m) = crc (xs.take k) := by
  have h1 := crcOn_append 0 (xs.take m) ((xs.take k).drop m)
  have h2 : xs.take m ++ (xs.take k).drop m = xs.take k := by
    have h3 := List.take_append_drop m (xs.take k)
    rwa [List.take_take, Nat.min_eq_left h] at h3
  rw [h2] at h1
  exact h1.symm
theorem xor_b8 (x y : UInt8) : bits .xor .u8 (x.toNat : Int) (y.toNat : Int) = ((x ^^^ y).toNat : Int) := by
  rw [u8_xor_nat _ _ (toNat_lt8 x) (toNat_lt8 y), UInt8.toNat_xor]
theorem lay3_length {xs ys zs : List UInt8} {n : Nat} (hx : n ≤ xs.length) (hy : n ≤ ys.length) (hz : n ≤ zs.length) : (lay (lay (xs.take n) (ys.take n)) (zs.take n)).length = n := by
  have h2 : (xs.take n).length = (ys.take n).length := by simp; omega
  rw [lay_length (by rw [lay_length h2]; simp; omega), lay_length h2]
  simp; omega
theorem lay3_get {xs ys zs : List UInt8} {n i : Nat} {x y z : UInt8} (hi : i < n) (hx : xs[i]? = some x) (hy : ys[i]? = some y) (hz : zs[i]? = some z) : (lay (lay (xs.take n) (ys.take n)) (zs.take n))[i]? = some (x ^^^ y ^^^ z) := by
  unfold lay
  rw [List.getElem?_zipWith, List.getElem?_zipWith, List.getElem?_take, List.getElem?_take, List.getElem?_take, if_pos hi, if_pos hi, if_pos hi, hx, hy, hz]

set_option maxRecDepth 100000 in
set_option maxHeartbeats 2000000 in
theorem laid_some (w : World) (A B C : Option Addr) (ca cb cc : Nat) (xs ys zs : List UInt8) (hx : Bs w (.slice A xs.length ca) xs) (hy : Bs w (.slice B ys.length cb) ys) (hz : Bs w (.slice C zs.length cc) zs)
    (hxl : xs.length ≤ 2000) (hyl : ys.length ≤ 2000) (hzl : zs.length ≤ 2000) (at' : Nat) (hat : at' < 65536) :
    Calls Try.prog 6 #[.slice A xs.length ca, .slice B ys.length cb, .slice C zs.length cc, .int .u16 at'] w fun e W' => e = .returned (.bool true) ∧ Below w.heap.size w W' := by
  obtain ⟨i0, hi, hz0, hz1, hz2⟩ := info_parts infoU8
  go_enter Try.func6, Try.ntmps6
  go_wp2_with fail
  refine (alive_any _).mono ?_
  rintro e w1 ⟨rfl, h1⟩
  obtain ⟨n, hnx, hny, hnz, hmin⟩ : ∃ n, n ≤ xs.length ∧ n ≤ ys.length ∧ n ≤ zs.length ∧ (n = xs.length ∨ n = ys.length ∨ n = zs.length) := ⟨min xs.length (min ys.length zs.length), by omega, by omega, by omega, by omega⟩
  go_upto_region 4 with fail
  go_cut [10] from 33 to 39 (fun v wc => wc = w1 ∧ v = .int .i64 (n : Int))
  case first =>
    go_wp2_with fail
    all_goals (go_meet; case rel => exact ⟨rfl, by congr 1; omega⟩)
  case rest =>
    obtain ⟨rfl, rfl⟩ := hcut
    clear hmin
    obtain ⟨Z, hZ⟩ : ∃ Z, Z = lay (lay (xs.take n) (ys.take n)) (zs.take n) := ⟨_, rfl⟩
    have HZL := Lib.hid (show Z.length = n by rw [hZ]; exact lay3_length hnx hny hnz)
    have HZ := Lib.hid hZ
    clear hZ
    go_wp2_with fail
    go_loopw [11, 12] (fun v i wr => ∃ k : Nat, k ≤ n ∧ i = .int .i64 k ∧ Row wr w.heap.size v (Z.take k) ∧ Below w.heap.size w wr) (fun _ i _ => n - (intOf i).toNat)
    case atStart => exact ⟨0, by omega, rfl, World.ownsRow_nil _ _ _ _, h1⟩
    case round =>
      obtain ⟨k, hk, rfl, hrow, hB⟩ := hrel
      by_cases hlt : k < n
      case pos =>
        obtain ⟨Ao, no, co, rfl⟩ := owns_slice hrow
        obtain ⟨b1, o1, rfl, c1⟩ := hx.at (i := k) (by omega)
        obtain ⟨b2, o2, rfl, c2⟩ := hy.at (i := k) (by omega)
        obtain ⟨b3, o3, rfl, c3⟩ := hz.at (i := k) (by omega)
        obtain ⟨x, hxk⟩ : ∃ x, xs[k]? = some x := ⟨_, List.getElem?_eq_getElem (by omega)⟩
        obtain ⟨y, hyk⟩ : ∃ y, ys[k]? = some y := ⟨_, List.getElem?_eq_getElem (by omega)⟩
        obtain ⟨z, hzk⟩ : ∃ z, zs[k]? = some z := ⟨_, List.getElem?_eq_getElem (by omega)⟩
        have e1 : xs[k]'(by omega) = x := by rw [List.getElem?_eq_getElem (by omega)] at hxk; exact Option.some.inj hxk
        have e2 : ys[k]'(by omega) = y := by rw [List.getElem?_eq_getElem (by omega)] at hyk; exact Option.some.inj hyk
        have e3 : zs[k]'(by omega) = z := by rw [List.getElem?_eq_getElem (by omega)] at hzk; exact Option.some.inj hzk
        rw [e1] at c1
        rw [e2] at c2
        rw [e3] at c3
        have HZK := Lib.hid (show Z.take (k + 1) = Z.take k ++ [x ^^^ y ^^^ z] by rw [List.take_add_one, HZ.out, lay3_get hlt hxk hyk hzk]; rfl)
        clear e1 e2 e3 hxk hyk hzk
        go_wp2_with fail
        have q1 := (hB.cell (p := ⟨b1, o1 + k, none⟩) (World.block_lt_of_cell? _ _ c1)).trans c1
        have q2 := (hB.cell (p := ⟨b2, o2 + k, none⟩) (World.block_lt_of_cell? _ _ c2)).trans c2
        have q3 := (hB.cell (p := ⟨b3, o3 + k, none⟩) (World.block_lt_of_cell? _ _ c3)).trans c3
        have hS : wr.drew.cell? ⟨b1, o1 + k, none⟩ = some (B8 x) ∧ wr.drew.cell? ⟨b2, o2 + k, none⟩ = some (B8 y) ∧ wr.drew.cell? ⟨b3, o3 + k, none⟩ = some (B8 z) ∧ True := ⟨q1, q2, q3, trivial⟩
        clear q1 q2 q3
        refine wp_held (fun W1 => W1.cell? ⟨b1, o1 + k, none⟩ = some (B8 x) ∧ W1.cell? ⟨b2, o2 + k, none⟩ = some (B8 y) ∧ W1.cell? ⟨b3, o3 + k, none⟩ = some (B8 z) ∧ True) (by kernel_rfl) ?_
        refine wpAnyH_next (i := 0) (v := .slice Ao no co) rfl (by kernel_rfl) (by kernel_rfl) (by kernel_rfl) (fun _ _ _ h => h) (by kernel_rfl) (fun W1 ⟨g1, g2, g3, _⟩ => by go_simp) hS (fun a' ha' => ?_)
        simp only [Act.put, List.getElem_toArray, List.getElem_cons_zero, List.setIfInBounds_toArray, List.set_cons_succ, List.set_cons_zero] at ha'
        subst ha'
        refine wpAnyH_next (i := 1) (v := .slice (some ⟨b1, o1, none⟩) xs.length ca) rfl (by kernel_rfl) (by kernel_rfl) (by kernel_rfl) (fun _ _ _ h => h) (by kernel_rfl) (fun W1 ⟨g1, g2, g3, _⟩ => by go_simp) hS (fun a' ha' => ?_)
        simp only [Act.put, List.getElem_toArray, List.getElem_cons_succ, List.getElem_cons_zero, List.setIfInBounds_toArray, List.set_cons_succ, List.set_cons_zero] at ha'
        subst ha'
        refine wpAnyH_next (i := 2) (v := .int .i64 (k : Int)) rfl (by kernel_rfl) (by kernel_rfl) (by kernel_rfl) (fun _ _ _ h => h) (by kernel_rfl) (fun W1 ⟨g1, g2, g3, _⟩ => by go_simp) hS (fun a' ha' => ?_)
        simp only [Act.put, List.getElem_toArray, List.getElem_cons_succ, List.getElem_cons_zero, List.setIfInBounds_toArray, List.set_cons_succ, List.set_cons_zero] at ha'
        subst ha'
        refine wpAnyH_next (i := 3) (v := .pointer (some ⟨b1, o1 + k, none⟩)) rfl (by kernel_rfl) (by kernel_rfl) (by kernel_rfl) (fun _ _ _ h => h) (by kernel_rfl) (fun W1 ⟨g1, g2, g3, _⟩ => by go_simp; intro h; exact absurd h (by omega)) hS (fun a' ha' => ?_)
        simp only [Act.put, List.getElem_toArray, List.getElem_cons_succ, List.getElem_cons_zero, List.setIfInBounds_toArray, List.set_cons_succ, List.set_cons_zero] at ha'
        subst ha'
        refine wpAnyH_next (i := 4) (v := B8 x) rfl (by kernel_rfl) (by kernel_rfl) (by kernel_rfl) (fun _ _ _ h => h) (by kernel_rfl) (fun W1 ⟨g1, g2, g3, _⟩ => by go_simp) hS (fun a' ha' => ?_)
        simp only [Act.put, List.getElem_toArray, List.getElem_cons_succ, List.getElem_cons_zero, List.setIfInBounds_toArray, List.set_cons_succ, List.set_cons_zero] at ha'
        subst ha'
        refine wpAnyH_next (i := 5) (v := .slice (some ⟨b2, o2, none⟩) ys.length cb) rfl (by kernel_rfl) (by kernel_rfl) (by kernel_rfl) (fun _ _ _ h => h) (by kernel_rfl) (fun W1 ⟨g1, g2, g3, _⟩ => by go_simp) hS (fun a' ha' => ?_)
        simp only [Act.put, List.getElem_toArray, List.getElem_cons_succ, List.getElem_cons_zero, List.setIfInBounds_toArray, List.set_cons_succ, List.set_cons_zero] at ha'
        subst ha'
        refine wpAnyH_next (i := 6) (v := .int .i64 (k : Int)) rfl (by kernel_rfl) (by kernel_rfl) (by kernel_rfl) (fun _ _ _ h => h) (by kernel_rfl) (fun W1 ⟨g1, g2, g3, _⟩ => by go_simp) hS (fun a' ha' => ?_)
        simp only [Act.put, List.getElem_toArray, List.getElem_cons_succ, List.getElem_cons_zero, List.setIfInBounds_toArray, List.set_cons_succ, List.set_cons_zero] at ha'
        subst ha'
        refine wpAnyH_next (i := 7) (v := .pointer (some ⟨b2, o2 + k, none⟩)) rfl (by kernel_rfl) (by kernel_rfl) (by kernel_rfl) (fun _ _ _ h => h) (by kernel_rfl) (fun W1 ⟨g1, g2, g3, _⟩ => by go_simp; intro h; exact absurd h (by omega)) hS (fun a' ha' => ?_)
        simp only [Act.put, List.getElem_toArray, List.getElem_cons_succ, List.getElem_cons_zero, List.setIfInBounds_toArray, List.set_cons_succ, List.set_cons_zero] at ha'
        subst ha'
        refine wpAnyH_next (i := 8) (v := B8 y) rfl (by kernel_rfl) (by kernel_rfl) (by kernel_rfl) (fun _ _ _ h => h) (by kernel_rfl) (fun W1 ⟨g1, g2, g3, _⟩ => by go_simp) hS (fun a' ha' => ?_)
        simp only [Act.put, List.getElem_toArray, List.getElem_cons_succ, List.getElem_cons_zero, List.setIfInBounds_toArray, List.set_cons_succ, List.set_cons_zero] at ha'
        subst ha'
        refine wpAnyH_next (i := 9) (v := B8 (x ^^^ y)) rfl (by kernel_rfl) (by kernel_rfl) (by kernel_rfl) (fun _ _ _ h => h) (by kernel_rfl) (fun W1 ⟨g1, g2, g3, _⟩ => by go_simp; exact xor_b8 x y) hS (fun a' ha' => ?_)
        simp only [Act.put, List.getElem_toArray, List.getElem_cons_succ, List.getElem_cons_zero, List.setIfInBounds_toArray, List.set_cons_succ, List.set_cons_zero] at ha'
        subst ha'
        refine wpAnyH_next (i := 10) (v := .slice (some ⟨b3, o3, none⟩) zs.length cc) rfl (by kernel_rfl) (by kernel_rfl) (by kernel_rfl) (fun _ _ _ h => h) (by kernel_rfl) (fun W1 ⟨g1, g2, g3, _⟩ => by go_simp) hS (fun a' ha' => ?_)
        simp only [Act.put, List.getElem_toArray, List.getElem_cons_succ, List.getElem_cons_zero, List.setIfInBounds_toArray, List.set_cons_succ, List.set_cons_zero] at ha'
        subst ha'
        refine wpAnyH_next (i := 11) (v := .int .i64 (k : Int)) rfl (by kernel_rfl) (by kernel_rfl) (by kernel_rfl) (fun _ _ _ h => h) (by kernel_rfl) (fun W1 ⟨g1, g2, g3, _⟩ => by go_simp) hS (fun a' ha' => ?_)
        simp only [Act.put, List.getElem_toArray, List.getElem_cons_succ, List.getElem_cons_zero, List.setIfInBounds_toArray, List.set_cons_succ, List.set_cons_zero] at ha'
        subst ha'
        refine wpAnyH_next (i := 12) (v := .pointer (some ⟨b3, o3 + k, none⟩)) rfl (by kernel_rfl) (by kernel_rfl) (by kernel_rfl) (fun _ _ _ h => h) (by kernel_rfl) (fun W1 ⟨g1, g2, g3, _⟩ => by go_simp; intro h; exact absurd h (by omega)) hS (fun a' ha' => ?_)
        simp only [Act.put, List.getElem_toArray, List.getElem_cons_succ, List.getElem_cons_zero, List.setIfInBounds_toArray, List.set_cons_succ, List.set_cons_zero] at ha'
        subst ha'
        refine wpAnyH_next (i := 13) (v := B8 z) rfl (by kernel_rfl) (by kernel_rfl) (by kernel_rfl) (fun _ _ _ h => h) (by kernel_rfl) (fun W1 ⟨g1, g2, g3, _⟩ => by go_simp) hS (fun a' ha' => ?_)
        simp only [Act.put, List.getElem_toArray, List.getElem_cons_succ, List.getElem_cons_zero, List.setIfInBounds_toArray, List.set_cons_succ, List.set_cons_zero] at ha'
        subst ha'
        refine wpAnyH_next (i := 14) (v := B8 (x ^^^ y ^^^ z)) rfl (by kernel_rfl) (by kernel_rfl) (by kernel_rfl) (fun _ _ _ h => h) (by kernel_rfl) (fun W1 ⟨g1, g2, g3, _⟩ => by go_simp; exact xor_b8 (x ^^^ y) z) hS (fun a' ha' => ?_)
        simp only [Act.put, List.getElem_toArray, List.getElem_cons_succ, List.getElem_cons_zero, List.setIfInBounds_toArray, List.set_cons_succ, List.set_cons_zero] at ha'
        subst ha'
        refine wpAnyH_one (i := 15) (by kernel_rfl) rfl rfl (fun K hK => ?_)
        unfold Oper.wp
        go_simp
        have hB2 : Below w.heap.size w (wr.alloc (.cells #[B8 (x ^^^ y ^^^ z)] 5)).drew := (hB.alloc hB.size _).drew
        have hrow2 := owns_below hrow (((Below.refl _ wr).alloc (Nat.le_refl _) (.cells #[B8 (x ^^^ y ^^^ z)] 5)).drew)
        have hone := (Bs.one wr (x ^^^ y ^^^ z) 5).below (Below.refl _ _).drew
        have hcs : ∀ W1, Below w.heap.size w W1 → W1.cell? ⟨b1, o1 + k, none⟩ = some (B8 x) ∧ W1.cell? ⟨b2, o2 + k, none⟩ = some (B8 y) ∧ W1.cell? ⟨b3, o3 + k, none⟩ = some (B8 z) ∧ True := fun W1 h => ⟨(h.cell (p := ⟨b1, o1 + k, none⟩) (World.block_lt_of_cell? _ _ c1)).trans c1, (h.cell (p := ⟨b2, o2 + k, none⟩) (World.block_lt_of_cell? _ _ c2)).trans c2, (h.cell (p := ⟨b3, o3 + k, none⟩) (World.block_lt_of_cell? _ _ c3)).trans c3, trivial⟩
        refine hK _ _ (hcs _ hB2) ?_
        clear hK K
        refine wpAnyH_one (i := 16) (by kernel_rfl) rfl rfl (fun K hK => ?_)
        refine wp_append_bs (.tmp 45) (.tmp 60) 22 rfl w.heap.size 5 i0 Try.underlying22 hi hz0 hz1 hz2 _ _ rfl hrow2 _ _ rfl hone (by simp; omega) hB2.size ?_
        intro v3 w3 hown3 hg3 _ _ _
        have hB3 := hB2.trans ((Kept.of_grown hg3).below (fun j _ e => (hrow2.lt j e).1) hB2.size)
        refine hK _ _ (hcs _ hB3) ?_
        clear hK K
        replace hS := hcs _ hB3
        refine wpAnyH_next (i := 17) (v := v3) rfl (by kernel_rfl) (by kernel_rfl) (by kernel_rfl) (fun _ _ _ h => h) (by kernel_rfl) (fun W1 _ => by go_simp) hS (fun a' ha' => ?_)
        simp only [Act.put, List.getElem_toArray, List.getElem_cons_succ, List.getElem_cons_zero, List.setIfInBounds_toArray, List.set_cons_succ, List.set_cons_zero] at ha'
        subst ha'
        refine wpAnyH_fin (by kernel_rfl) ?_ _
        clear hcs hS hone hrow2 hB2 c1 c2 c3
        go_wp2_with fail
        go_roundw
        case rel => exact ⟨k + 1, by omega, by go_num, by rw [HZK.out]; exact hown3, hB3⟩
        case measure => simp [intOf]; omega
      case neg =>
        obtain rfl : k = n := by omega
        obtain ⟨m, hmd⟩ : ∃ m : Nat, m = at' % (k + 1) := ⟨_, rfl⟩
        have hmk : m ≤ k := by rw [hmd]; have := Nat.mod_lt at' (by omega : k + 1 > 0); omega
        have hm' : (at' : Int) % ((k : Int) + 1) = (m : Int) := by rw [hmd, Int.natCast_emod]; rfl
        rw [List.take_of_length_le (by rw [HZL.out]; exact Nat.le_refl _)] at hrow
        obtain ⟨Ao, no, co, rfl⟩ := owns_slice hrow
        have hbo := Bs.of_owns hrow
        have hbx := (hx.below hB).take hnx
        have hby := (hy.below hB).take hny
        have hbz := (hz.below hB).take hnz
        have hbm := (hx.below hB).take (k := m) (by omega)
        have hxB := hx.below hB
        have hlZ : Z.length ≤ 140737488355328 := by rw [HZL.out]; omega
        have hlx : (xs.take k).length ≤ 140737488355328 := by simp; omega
        have hly : (ys.take k).length ≤ 140737488355328 := by simp; omega
        have hlz : (zs.take k).length ≤ 140737488355328 := by simp; omega
        have hlm : (xs.take m).length ≤ 140737488355328 := by simp; omega
        have HCR := Lib.hid (show crc Z = crc (xs.take k) ^^^ crc (ys.take k) ^^^ crc (zs.take k) by rw [HZ.out]; exact crc_lay (by simp; omega) (by simp; omega))
        have HON := Lib.hid (show crcOn (crc (xs.take m)) ((xs.take k).drop m) = crc (xs.take k) from on_parts hmk)
        have hka : k ≤ ca := by have := hxB.len.2; omega
        have hkb : k ≤ cb := by have := (hy.below hB).len.2; omega
        have hkc : k ≤ cc := by have := (hz.below hB).len.2; omega
        have hma : m ≤ ca := by omega
        clear hmd hrow hx hy hz
        go_wp2_with fail
        rw [hm']
        refine wp_table [.val (.bool true), .val (.bool true), .val (.slice Ao no co), .parts [(.slice Ao no co, Z)], .val (.int .u32 ((crc Z : Nat) : Int)), .val (.slice A xs.length ca), .val (.int .i64 (k : Int)), .val (.slice A k ca), .parts [(.slice A k ca, (xs.take k))], .val (.int .u32 ((crc (xs.take k) : Nat) : Int)), .val (.slice B ys.length cb), .val (.int .i64 (k : Int)), .val (.slice B k cb), .parts [(.slice B k cb, (ys.take k))], .val (.int .u32 ((crc (ys.take k) : Nat) : Int)), .val (.int .u32 ((crc (xs.take k) ^^^ crc (ys.take k) : Nat) : Int)), .val (.slice C zs.length cc), .val (.int .i64 (k : Int)), .val (.slice C k cc), .parts [(.slice C k cc, (zs.take k))], .val (.int .u32 ((crc (zs.take k) : Nat) : Int)), .val (.int .u32 ((crc (xs.take k) ^^^ crc (ys.take k) ^^^ crc (zs.take k) : Nat) : Int)), .val (.bool true), .val (.bool true), .val (.bool true), .val (.slice A xs.length ca), .val (.int .i64 (m : Int)), .val (.slice A m ca), .parts [(.slice A m ca, (xs.take m))], .val (.int .u32 ((crc (xs.take m) : Nat) : Int)), .val (.slice A xs.length ca), .val (.int .i64 (m : Int)), .val (.int .i64 (k : Int)), .bytes ((xs.take k).drop m), .val (.int .u32 ((crc (xs.take k) : Nat) : Int)), .val (.slice A xs.length ca), .val (.int .i64 (k : Int)), .val (.slice A k ca), .parts [(.slice A k ca, (xs.take k))], .val (.int .u32 ((crc (xs.take k) : Nat) : Int)), .val (.bool true), .val (.bool true), .val (.bool true), .val (.slice Ao no co), .val (.int .u32 ((crc Z : Nat) : Int)), .val (.slice Ao no co), .parts [(.slice Ao no co, Z)], .val (.int .u32 ((crc Z : Nat) : Int)), .val (.bool true), .val (.bool true), .val (.bool true)] (by kernel_rfl) (by kernel_rfl) (by kernel_rfl) ?_ ?_
        case refine_1 =>
          go_light
          intro i o ho a W hdf hBW hF hD
          match i, ho with
          | 0, ho =>
            cases ho
            have r9 : a.tmps[9]?.getD undef = (.bool true) := hF 9 (by kernel_rfl)
            unfold Oper.wp
            go_simp
            exact ⟨_, rfl, rfl, Below.refl _ _⟩
          | 1, ho =>
            cases ho
            have r67 : a.tmps[67]?.getD undef = (.bool true) := hD 0 (by kernel_rfl)
            unfold Oper.wp
            go_simp
            exact ⟨_, rfl, rfl, Below.refl _ _⟩
          | 2, ho =>
            cases ho
            have r11 : a.tmps[11]?.getD undef = (.slice Ao no co) := hF 11 (by kernel_rfl)
            unfold Oper.wp
            go_simp
            exact ⟨_, rfl, rfl, Below.refl _ _⟩
          | 3, ho =>
            cases ho
            have r69 : a.tmps[69]?.getD undef = (.slice Ao no co) := hD 2 (by kernel_rfl)
            unfold Oper.wp
            go_simp
            exact ⟨_, rfl, Ps.one (hbo.below hBW) _, (Below.refl _ _).alloc (Nat.le_refl _) _⟩
          | 4, ho =>
            cases ho
            have r70 : Ps W (a.tmps[70]?.getD undef) [(.slice Ao no co, Z)] := hD 3 (by kernel_rfl)
            unfold Oper.wp
            go_simp
            refine (Of_any W _ _ r70 (by simp) (by rw [flat_one]; exact hlZ)).mono ?_
            rintro e W2 ⟨rfl, hb2⟩
            exact ⟨_, rfl, by rw [flat_one]; rfl, hb2⟩
          | 5, ho =>
            cases ho
            have r0 : a.tmps[0]?.getD undef = (.slice A xs.length ca) := hF 0 (by kernel_rfl)
            unfold Oper.wp
            go_simp
            exact ⟨_, rfl, rfl, Below.refl _ _⟩
          | 6, ho =>
            cases ho
            have r10 : a.tmps[10]?.getD undef = (.int .i64 (k : Int)) := hF 10 (by kernel_rfl)
            unfold Oper.wp
            go_simp
            exact ⟨_, rfl, rfl, Below.refl _ _⟩
          | 7, ho =>
            cases ho
            have r72 : a.tmps[72]?.getD undef = (.slice A xs.length ca) := hD 5 (by kernel_rfl)
            have r73 : a.tmps[73]?.getD undef = (.int .i64 (k : Int)) := hD 6 (by kernel_rfl)
            unfold Oper.wp
            go_simp
            exact ⟨_, rfl, rfl, Below.refl _ _⟩
          | 8, ho =>
            cases ho
            have r74 : a.tmps[74]?.getD undef = (.slice A k ca) := hD 7 (by kernel_rfl)
            unfold Oper.wp
            go_simp
            exact ⟨_, rfl, Ps.one (hbx.below hBW) _, (Below.refl _ _).alloc (Nat.le_refl _) _⟩
          | 9, ho =>
            cases ho
            have r75 : Ps W (a.tmps[75]?.getD undef) [(.slice A k ca, (xs.take k))] := hD 8 (by kernel_rfl)
            unfold Oper.wp
            go_simp
            refine (Of_any W _ _ r75 (by simp) (by rw [flat_one]; exact hlx)).mono ?_
            rintro e W2 ⟨rfl, hb2⟩
            exact ⟨_, rfl, by rw [flat_one]; rfl, hb2⟩
          | 10, ho =>
            cases ho
            have r1 : a.tmps[1]?.getD undef = (.slice B ys.length cb) := hF 1 (by kernel_rfl)
            unfold Oper.wp
            go_simp
            exact ⟨_, rfl, rfl, Below.refl _ _⟩
          | 11, ho =>
            cases ho
            have r10 : a.tmps[10]?.getD undef = (.int .i64 (k : Int)) := hF 10 (by kernel_rfl)
            unfold Oper.wp
            go_simp
            exact ⟨_, rfl, rfl, Below.refl _ _⟩
          | 12, ho =>
            cases ho
            have r77 : a.tmps[77]?.getD undef = (.slice B ys.length cb) := hD 10 (by kernel_rfl)
            have r78 : a.tmps[78]?.getD undef = (.int .i64 (k : Int)) := hD 11 (by kernel_rfl)
            unfold Oper.wp
            go_simp
            exact ⟨_, rfl, rfl, Below.refl _ _⟩
          | 13, ho =>
            cases ho
            have r79 : a.tmps[79]?.getD undef = (.slice B k cb) := hD 12 (by kernel_rfl)
            unfold Oper.wp
            go_simp
            exact ⟨_, rfl, Ps.one (hby.below hBW) _, (Below.refl _ _).alloc (Nat.le_refl _) _⟩
          | 14, ho =>
            cases ho
            have r80 : Ps W (a.tmps[80]?.getD undef) [(.slice B k cb, (ys.take k))] := hD 13 (by kernel_rfl)
            unfold Oper.wp
            go_simp
            refine (Of_any W _ _ r80 (by simp) (by rw [flat_one]; exact hly)).mono ?_
            rintro e W2 ⟨rfl, hb2⟩
            exact ⟨_, rfl, by rw [flat_one]; rfl, hb2⟩
          | 15, ho =>
            cases ho
            have r76 : a.tmps[76]?.getD undef = (.int .u32 ((crc (xs.take k) : Nat) : Int)) := hD 9 (by kernel_rfl)
            have r81 : a.tmps[81]?.getD undef = (.int .u32 ((crc (ys.take k) : Nat) : Int)) := hD 14 (by kernel_rfl)
            unfold Oper.wp
            go_simp
            exact ⟨_, rfl, by rw [u32_xor_nat _ _ (crc_lt _) (crc_lt _)]; rfl, Below.refl _ _⟩
          | 16, ho =>
            cases ho
            have r2 : a.tmps[2]?.getD undef = (.slice C zs.length cc) := hF 2 (by kernel_rfl)
            unfold Oper.wp
            go_simp
            exact ⟨_, rfl, rfl, Below.refl _ _⟩
          | 17, ho =>
            cases ho
            have r10 : a.tmps[10]?.getD undef = (.int .i64 (k : Int)) := hF 10 (by kernel_rfl)
            unfold Oper.wp
            go_simp
            exact ⟨_, rfl, rfl, Below.refl _ _⟩
          | 18, ho =>
            cases ho
            have r83 : a.tmps[83]?.getD undef = (.slice C zs.length cc) := hD 16 (by kernel_rfl)
            have r84 : a.tmps[84]?.getD undef = (.int .i64 (k : Int)) := hD 17 (by kernel_rfl)
            unfold Oper.wp
            go_simp
            exact ⟨_, rfl, rfl, Below.refl _ _⟩
          | 19, ho =>
            cases ho
            have r85 : a.tmps[85]?.getD undef = (.slice C k cc) := hD 18 (by kernel_rfl)
            unfold Oper.wp
            go_simp
            exact ⟨_, rfl, Ps.one (hbz.below hBW) _, (Below.refl _ _).alloc (Nat.le_refl _) _⟩
          | 20, ho =>
            cases ho
            have r86 : Ps W (a.tmps[86]?.getD undef) [(.slice C k cc, (zs.take k))] := hD 19 (by kernel_rfl)
            unfold Oper.wp
            go_simp
            refine (Of_any W _ _ r86 (by simp) (by rw [flat_one]; exact hlz)).mono ?_
            rintro e W2 ⟨rfl, hb2⟩
            exact ⟨_, rfl, by rw [flat_one]; rfl, hb2⟩
          | 21, ho =>
            cases ho
            have r82 : a.tmps[82]?.getD undef = (.int .u32 ((crc (xs.take k) ^^^ crc (ys.take k) : Nat) : Int)) := hD 15 (by kernel_rfl)
            have r87 : a.tmps[87]?.getD undef = (.int .u32 ((crc (zs.take k) : Nat) : Int)) := hD 20 (by kernel_rfl)
            unfold Oper.wp
            go_simp
            exact ⟨_, rfl, by rw [u32_xor_nat _ _ (Nat.xor_lt_two_pow (n := 32) (crc_lt _) (crc_lt _)) (crc_lt _)]; rfl, Below.refl _ _⟩
          | 22, ho =>
            cases ho
            have r71 : a.tmps[71]?.getD undef = (.int .u32 ((crc Z : Nat) : Int)) := hD 4 (by kernel_rfl)
            have r88 : a.tmps[88]?.getD undef = (.int .u32 ((crc (xs.take k) ^^^ crc (ys.take k) ^^^ crc (zs.take k) : Nat) : Int)) := hD 21 (by kernel_rfl)
            unfold Oper.wp
            go_simp
            exact ⟨_, rfl, by rw [HCR.out]; simp; rfl, Below.refl _ _⟩
          | 23, ho =>
            cases ho
            have r68 : a.tmps[68]?.getD undef = (.bool true) := hD 1 (by kernel_rfl)
            have r89 : a.tmps[89]?.getD undef = (.bool true) := hD 22 (by kernel_rfl)
            unfold Oper.wp
            go_simp
            exact ⟨_, rfl, rfl, Below.refl _ _⟩
          | 24, ho =>
            cases ho
            have r90 : a.tmps[90]?.getD undef = (.bool true) := hD 23 (by kernel_rfl)
            unfold Oper.wp
            go_simp
            exact ⟨_, rfl, rfl, Below.refl _ _⟩
          | 25, ho =>
            cases ho
            have r0 : a.tmps[0]?.getD undef = (.slice A xs.length ca) := hF 0 (by kernel_rfl)
            unfold Oper.wp
            go_simp
            exact ⟨_, rfl, rfl, Below.refl _ _⟩
          | 26, ho =>
            cases ho
            have r13 : a.tmps[13]?.getD undef = (.int .i64 (m : Int)) := hF 13 (by kernel_rfl)
            unfold Oper.wp
            go_simp
            exact ⟨_, rfl, rfl, Below.refl _ _⟩
          | 27, ho =>
            cases ho
            have r92 : a.tmps[92]?.getD undef = (.slice A xs.length ca) := hD 25 (by kernel_rfl)
            have r93 : a.tmps[93]?.getD undef = (.int .i64 (m : Int)) := hD 26 (by kernel_rfl)
            unfold Oper.wp
            go_simp
            exact ⟨_, rfl, rfl, Below.refl _ _⟩
          | 28, ho =>
            cases ho
            have r94 : a.tmps[94]?.getD undef = (.slice A m ca) := hD 27 (by kernel_rfl)
            unfold Oper.wp
            go_simp
            exact ⟨_, rfl, Ps.one (hbm.below hBW) _, (Below.refl _ _).alloc (Nat.le_refl _) _⟩
          | 29, ho =>
            cases ho
            have r95 : Ps W (a.tmps[95]?.getD undef) [(.slice A m ca, (xs.take m))] := hD 28 (by kernel_rfl)
            unfold Oper.wp
            go_simp
            refine (Of_any W _ _ r95 (by simp) (by rw [flat_one]; exact hlm)).mono ?_
            rintro e W2 ⟨rfl, hb2⟩
            exact ⟨_, rfl, by rw [flat_one]; rfl, hb2⟩
          | 30, ho =>
            cases ho
            have r0 : a.tmps[0]?.getD undef = (.slice A xs.length ca) := hF 0 (by kernel_rfl)
            unfold Oper.wp
            go_simp
            exact ⟨_, rfl, rfl, Below.refl _ _⟩
          | 31, ho =>
            cases ho
            have r13 : a.tmps[13]?.getD undef = (.int .i64 (m : Int)) := hF 13 (by kernel_rfl)
            unfold Oper.wp
            go_simp
            exact ⟨_, rfl, rfl, Below.refl _ _⟩
          | 32, ho =>
            cases ho
            have r10 : a.tmps[10]?.getD undef = (.int .i64 (k : Int)) := hF 10 (by kernel_rfl)
            unfold Oper.wp
            go_simp
            exact ⟨_, rfl, rfl, Below.refl _ _⟩
          | 33, ho =>
            cases ho
            have r97 : a.tmps[97]?.getD undef = (.slice A xs.length ca) := hD 30 (by kernel_rfl)
            have r98 : a.tmps[98]?.getD undef = (.int .i64 (m : Int)) := hD 31 (by kernel_rfl)
            have r99 : a.tmps[99]?.getD undef = (.int .i64 (k : Int)) := hD 32 (by kernel_rfl)
            unfold Oper.wp
            go_simp
            exact ⟨_, rfl, (hbx.drop (by simp; omega)).below hBW, Below.refl _ _⟩
          | 34, ho =>
            cases ho
            have r96 : a.tmps[96]?.getD undef = (.int .u32 ((crc (xs.take m) : Nat) : Int)) := hD 29 (by kernel_rfl)
            have r100 : Bs W (a.tmps[100]?.getD undef) ((xs.take k).drop m) := hD 33 (by kernel_rfl)
            unfold Oper.wp
            go_simp
            refine (On_any W _ (crc_lt _) _ _ r100 (by simp; omega)).mono ?_
            rintro e W2 ⟨rfl, hb2⟩
            exact ⟨_, rfl, by rw [HON.out]; rfl, hb2⟩
          | 35, ho =>
            cases ho
            have r0 : a.tmps[0]?.getD undef = (.slice A xs.length ca) := hF 0 (by kernel_rfl)
            unfold Oper.wp
            go_simp
            exact ⟨_, rfl, rfl, Below.refl _ _⟩
          | 36, ho =>
            cases ho
            have r10 : a.tmps[10]?.getD undef = (.int .i64 (k : Int)) := hF 10 (by kernel_rfl)
            unfold Oper.wp
            go_simp
            exact ⟨_, rfl, rfl, Below.refl _ _⟩
          | 37, ho =>
            cases ho
            have r102 : a.tmps[102]?.getD undef = (.slice A xs.length ca) := hD 35 (by kernel_rfl)
            have r103 : a.tmps[103]?.getD undef = (.int .i64 (k : Int)) := hD 36 (by kernel_rfl)
            unfold Oper.wp
            go_simp
            exact ⟨_, rfl, rfl, Below.refl _ _⟩
          | 38, ho =>
            cases ho
            have r104 : a.tmps[104]?.getD undef = (.slice A k ca) := hD 37 (by kernel_rfl)
            unfold Oper.wp
            go_simp
            exact ⟨_, rfl, Ps.one (hbx.below hBW) _, (Below.refl _ _).alloc (Nat.le_refl _) _⟩
          | 39, ho =>
            cases ho
            have r105 : Ps W (a.tmps[105]?.getD undef) [(.slice A k ca, (xs.take k))] := hD 38 (by kernel_rfl)
            unfold Oper.wp
            go_simp
            refine (Of_any W _ _ r105 (by simp) (by rw [flat_one]; exact hlx)).mono ?_
            rintro e W2 ⟨rfl, hb2⟩
            exact ⟨_, rfl, by rw [flat_one]; rfl, hb2⟩
          | 40, ho =>
            cases ho
            have r101 : a.tmps[101]?.getD undef = (.int .u32 ((crc (xs.take k) : Nat) : Int)) := hD 34 (by kernel_rfl)
            have r106 : a.tmps[106]?.getD undef = (.int .u32 ((crc (xs.take k) : Nat) : Int)) := hD 39 (by kernel_rfl)
            unfold Oper.wp
            go_simp
            exact ⟨_, rfl, rfl, Below.refl _ _⟩
          | 41, ho =>
            cases ho
            have r91 : a.tmps[91]?.getD undef = (.bool true) := hD 24 (by kernel_rfl)
            have r107 : a.tmps[107]?.getD undef = (.bool true) := hD 40 (by kernel_rfl)
            unfold Oper.wp
            go_simp
            exact ⟨_, rfl, rfl, Below.refl _ _⟩
          | 42, ho =>
            cases ho
            have r108 : a.tmps[108]?.getD undef = (.bool true) := hD 41 (by kernel_rfl)
            unfold Oper.wp
            go_simp
            exact ⟨_, rfl, rfl, Below.refl _ _⟩
          | 43, ho =>
            cases ho
            have r11 : a.tmps[11]?.getD undef = (.slice Ao no co) := hF 11 (by kernel_rfl)
            unfold Oper.wp
            go_simp
            exact ⟨_, rfl, rfl, Below.refl _ _⟩
          | 44, ho =>
            cases ho
            have r110 : a.tmps[110]?.getD undef = (.slice Ao no co) := hD 43 (by kernel_rfl)
            unfold Oper.wp
            go_simp
            refine (rOf_any W _ Z (hbo.below hBW) hlZ).mono ?_
            rintro e W2 ⟨rfl, rfl⟩
            exact ⟨_, rfl, rfl, Below.refl _ _⟩
          | 45, ho =>
            cases ho
            have r11 : a.tmps[11]?.getD undef = (.slice Ao no co) := hF 11 (by kernel_rfl)
            unfold Oper.wp
            go_simp
            exact ⟨_, rfl, rfl, Below.refl _ _⟩
          | 46, ho =>
            cases ho
            have r112 : a.tmps[112]?.getD undef = (.slice Ao no co) := hD 45 (by kernel_rfl)
            unfold Oper.wp
            go_simp
            exact ⟨_, rfl, Ps.one (hbo.below hBW) _, (Below.refl _ _).alloc (Nat.le_refl _) _⟩
          | 47, ho =>
            cases ho
            have r113 : Ps W (a.tmps[113]?.getD undef) [(.slice Ao no co, Z)] := hD 46 (by kernel_rfl)
            unfold Oper.wp
            go_simp
            refine (Of_any W _ _ r113 (by simp) (by rw [flat_one]; exact hlZ)).mono ?_
            rintro e W2 ⟨rfl, hb2⟩
            exact ⟨_, rfl, by rw [flat_one]; rfl, hb2⟩
          | 48, ho =>
            cases ho
            have r111 : a.tmps[111]?.getD undef = (.int .u32 ((crc Z : Nat) : Int)) := hD 44 (by kernel_rfl)
            have r114 : a.tmps[114]?.getD undef = (.int .u32 ((crc Z : Nat) : Int)) := hD 47 (by kernel_rfl)
            unfold Oper.wp
            go_simp
            exact ⟨_, rfl, rfl, Below.refl _ _⟩
          | 49, ho =>
            cases ho
            have r109 : a.tmps[109]?.getD undef = (.bool true) := hD 42 (by kernel_rfl)
            have r115 : a.tmps[115]?.getD undef = (.bool true) := hD 48 (by kernel_rfl)
            unfold Oper.wp
            go_simp
            exact ⟨_, rfl, rfl, Below.refl _ _⟩
          | 50, ho =>
            cases ho
            have r116 : a.tmps[116]?.getD undef = (.bool true) := hD 49 (by kernel_rfl)
            unfold Oper.wp
            go_simp
            exact ⟨_, rfl, rfl, Below.refl _ _⟩
          | i + 51, ho => exact absurd (Array.getElem?_eq_some_iff.1 ho).1 (by simp)
        case refine_2 =>
          intro a W hdf hsz hBW hF hD
          have r8 : a.tmps[8]?.getD undef = .bool true := hD 50 (by decide)
          clear hF hD hsz
          go_wp2_with fail
          refine bodyPost_ret (results_tmp rfl _ _ _) hdf ?_
          exact ⟨by rw [Array.getD_eq_getD_getElem?, r8], hB.trans (hBW.mono hB.size)⟩

set_option maxRecDepth 100000 in
set_option maxHeartbeats 400000 in
theorem laid_great (w : World) (A B C : Option Addr) (l m n ca cb cc : Nat) (hl : l ≤ 9223372036854775807) (hm : m ≤ 9223372036854775807) (hn : n ≤ 9223372036854775807) (h : 2000 < l ∨ 2000 < m ∨ 2000 < n) (at' : Int) :
    Calls Try.prog 6 #[.slice A l ca, .slice B m cb, .slice C n cc, .int .u16 at'] w fun e W' => e = .returned (.bool true) ∧ Below w.heap.size w W' := by
  go_enter Try.func6, Try.ntmps6
  go_wp2_with fail
  refine (alive_any _).mono ?_
  rintro e w1 ⟨rfl, h1⟩
  by_cases hg : 2000 < l
  · clear h
    go_wp2
    go_ret
    exact ⟨rfl, h1⟩
  · by_cases hg2 : 2000 < m
    · clear h
      go_wp2
      go_ret
      exact ⟨rfl, h1⟩
    · have hg3 : 2000 < n := by omega
      clear h
      go_wp2
      go_ret
      exact ⟨rfl, h1⟩

/-- For all arguments. -/
theorem laid_any (w : World) (v : Value) (xs : List UInt8) (hx : Bs w v xs) (hxl : xs.length ≤ 9223372036854775807) (u : Value) (ys : List UInt8) (hy : Bs w u ys) (hyl : ys.length ≤ 9223372036854775807) (t : Value) (zs : List UInt8) (hz : Bs w t zs) (hzl : zs.length ≤ 9223372036854775807) (at' : Nat) (hat : at' < 65536) :
    Calls Try.prog 6 #[v, u, t, .int .u16 at'] w fun e W' => e = .returned (.bool true) ∧ Below w.heap.size w W' := by
  obtain ⟨A, ca, rfl, _⟩ := hx.form
  obtain ⟨B, cb, rfl, _⟩ := hy.form
  obtain ⟨C, cc, rfl, _⟩ := hz.form
  by_cases h : 2000 < xs.length ∨ 2000 < ys.length ∨ 2000 < zs.length
  · exact laid_great w A B C _ _ _ ca cb cc hxl hyl hzl h _
  · exact laid_some w A B C ca cb cc xs ys zs hx hy hz (by omega) (by omega) (by omega) at' hat
end Go.Proofs.Ytbclhjcnopfegaa
