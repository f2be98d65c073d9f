/- A dot read from bytes: the program's and the reference's (tools/gendot.py). -/
import Derived.Test.YtockdekhdjmklaaDoorDotCmp
import Derived.Test.YtockdekhdjmklaaDoorLebReadB
import Derived.Test.YtockdekhdjmklaaDoorLebRefNum
namespace Go.Proofs.YtockdekhdjmklaaDoor
open Go.RowKit

def numB (most : Nat) (xs : List UInt8) : Int × Nat × List UInt8 := back xs (numRes most xs)
def decD (xs : List UInt8) : Int × (Int × Int) × List UInt8 :=
  if (numB 15 xs).1 = 0 then
    if (numB 4294967295 (numB 15 xs).2.2).1 = 0 then
      if (numB 4294967295 (numB 15 xs).2.2).2.1 = 0 then (50, (0, 0), (numB 4294967295 (numB 15 xs).2.2).2.2)
      else (0, ((numB 15 xs).2.1, (numB 4294967295 (numB 15 xs).2.2).2.1), (numB 4294967295 (numB 15 xs).2.2).2.2)
    else ((numB 4294967295 (numB 15 xs).2.2).1, (0, 0), (numB 4294967295 (numB 15 xs).2.2).2.2)
  else ((numB 15 xs).1, (0, 0), (numB 15 xs).2.2)
theorem numB_le {most : Nat} {xs : List UInt8} (h : (numB most xs).1 = 0) : (numB most xs).2.1 ≤ most := numRes_le h
theorem numB_left (most : Nat) (xs : List UInt8) : (numB most xs).2.2.length ≤ xs.length := by
  unfold numB back
  dsimp only
  split
  · exact numRes_left most xs
  · exact Nat.le_refl _
theorem SrcNumB_any (w : World) (g : Nat) (v : Value) (xs : List UInt8) (hat : SourceAt w g v xs) (hlen : xs.length ≤ 140737488355328) (most : Nat) :
    Calls Tryd.prog 34 #[.pointer (some ⟨g, 0, none⟩), .int .u64 most] w (NumOut w g v (numB most xs)) := SrcNumber_any w g v xs hat hlen most
theorem RefNumB_any (w : World) (g : Nat) (v : Value) (xs : List UInt8) (hat : RefAt w g v xs) (hlen : xs.length ≤ 140737488355328) (most : Nat) :
    Calls Tryd.prog 35 #[.pointer (some ⟨g, 0, none⟩), .int .u64 most] w (RefNumOut w g v (numB most xs)) := by
  have := refNumber_any w g v xs hat hlen most
  first | exact this | (rw [refNum_eq] at this; exact this)

theorem results_dot2 {fn : Func} {t u : Tmp} (h : fn.results = #[.cell t 23, .tmp u]) (tmps : Array Value) {w : World} {g : Nat} (x y : Int) (ht : tmps.getD t undef = .pointer (some ⟨g, 0, none⟩)) (h0 : w.cell? ⟨g, 0, none⟩ = some (.int .i64 x)) (h1 : w.cell? ⟨g, 1, none⟩ = some (.int .i64 y)) :
    (results fn tmps).run Tryd.prog w = .ok (.tuple #[DotV x y, tmps.getD u undef]) w := by
  rw [Array.getD_eq_getD_getElem?] at ht
  first | (simp [results, h, ht, asAddr]; go_simp; done)
theorem frozen_on {w w' : World} {p : Addr} (hb : Below w.heap.size w w') (hp : p.block < w.heap.size) (h : w.frozen? p = false) : w'.frozen? p = false := (World.frozen?_of_block (hb.block _ hp)).trans h
theorem SourceRead.end5 {w w2 W' : World} {g : Nat} {v v2 : Value} {xs : List UInt8} (hat2 : SourceAt w2 g v2 xs) (K : Kept (fun j => j = g) w w2) (hv2 : v2.ownBlock = v.ownBlock) (hg : g < w.heap.size) (hv : ∀ j, v.ownBlock = some j → j < w.heap.size) (hk : Kept (fun j => w.heap.size ≤ j) w2 W') : SourceRead w g v xs W' :=
  ⟨v2, hat2.kept hk (by omega) (fun j hj => by have := hv j (hv2 ▸ hj); omega), K.trans hk (fun j hj h => by omega), hv2⟩
theorem RefRead.end5 {w w2 W' : World} {g : Nat} {v v2 : Value} {xs : List UInt8} (hat2 : RefAt w2 g v2 xs) (K : Kept (fun j => j = g) w w2) (hv2 : v2.ownBlock = v.ownBlock) (hg : g < w.heap.size) (hv : ∀ j, v.ownBlock = some j → j < w.heap.size) (hk : Kept (fun j => w.heap.size ≤ j) w2 W') : RefRead w g v xs W' :=
  ⟨v2, hat2.kept hk (by omega) (fun j hj => by have := hv j (hv2 ▸ hj); omega), K.trans hk (fun j hj h => by omega), hv2⟩

set_option maxHeartbeats 1000000 in
theorem pDDecode_any (w : World) (g : Nat) (v : Value) (xs : List UInt8) (hat : SourceAt w g v xs) (hlen : xs.length ≤ 140737488355328) :
    Calls Tryd.prog 12 #[.pointer (some ⟨g, 0, none⟩)] w fun e W' => e = .returned (.tuple #[DotV (decD xs).2.1.1 (decD xs).2.1.2, .int .i64 (decD xs).1]) ∧ SourceRead w g v (decD xs).2.2 W' := by
  have hg := hat.box.lt
  have hv : ∀ j, v.ownBlock = some j → j < w.heap.size := fun j hj => (hat.row j hj).1
  have hat0 : SourceAt (w.alloc (.cells #[.int .i64 0, .int .i64 0] 23)) g v xs := hat.kept (T := fun _ => False) ((Kept.refl _ w).alloc _) (fun h => h) (fun _ _ h => h)
  have k0 : Kept (fun j => j = g) w (w.alloc (.cells #[.int .i64 0, .int .i64 0] 23)) := (Kept.refl _ w).alloc _
  have b0 : (w.alloc (.cells #[.int .i64 0, .int .i64 0] 23)).heap[w.heap.size]? = some (.cells #[.int .i64 0, .int .i64 0] 23) := by show (w.heap.push _)[w.heap.size]? = _; exact Array.getElem?_push_size
  have hlt0 : w.heap.size < (w.alloc (.cells #[.int .i64 0, .int .i64 0] 23)).heap.size := by rw [World.size_alloc]; omega
  obtain ⟨e1, n1, xs1, hr1⟩ : ∃ a b c, numB 15 xs = (a, b, c) := ⟨_, _, _, rfl⟩
  obtain ⟨e2, n2, xs2, hr2⟩ : ∃ a b c, numB 4294967295 xs1 = (a, b, c) := ⟨_, _, _, rfl⟩
  have hD : decD xs = if e1 = 0 then if e2 = 0 then if n2 = 0 then (50, (0, 0), xs2) else (0, ((n1 : Int), (n2 : Int)), xs2) else (e2, (0, 0), xs2) else (e1, (0, 0), xs1) := by simp [decD, hr1, hr2]
  have hle1 : e1 = 0 → n1 ≤ 15 := by have := numB_le (most := 15) (xs := xs); rw [hr1] at this; exact this
  have hle2 : e2 = 0 → n2 ≤ 4294967295 := by have := numB_le (most := 4294967295) (xs := xs1); rw [hr2] at this; exact this
  have hlf1 : xs1.length ≤ xs.length := by have := numB_left 15 xs; rw [hr1] at this; exact this
  have c1 : ∀ W v', SourceAt W g v' xs → Calls Tryd.prog 34 #[.pointer (some ⟨g, 0, none⟩), .int .u64 15] W fun e W' => e = .returned (.tuple #[.int .u64 (n1 : Int), .int .i64 e1]) ∧ SourceRead W g v' xs1 W' := fun W v' h => by have := SrcNumB_any W g v' xs h hlen 15; rw [hr1] at this; exact this
  have c2 : ∀ W v', SourceAt W g v' xs1 → Calls Tryd.prog 34 #[.pointer (some ⟨g, 0, none⟩), .int .u64 4294967295] W fun e W' => e = .returned (.tuple #[.int .u64 (n2 : Int), .int .i64 e2]) ∧ SourceRead W g v' xs2 W' := fun W v' h => by have := SrcNumB_any W g v' xs1 h (by omega) 4294967295; rw [hr2] at this; exact this
  clear hr1 hr2
  by_cases h1 : e1 = 0
  case neg =>
    rw [hD, if_neg h1]
    have h1' : (e1 != 0) = true := by simpa using h1
    go_enter Tryd.func12, Tryd.ntmps12
    go_wp2_with fail
    refine (c1 _ v hat0).mono ?_
    rintro e w1 ⟨rfl, v1, hat1, k1, hv1⟩
    have b1 := (k1.block w.heap.size hlt0 (by omega)).trans b0
    have hsz1 : w.heap.size < w1.heap.size := Nat.lt_of_lt_of_le hlt0 k1.size
    have K1 := k0.same k1
    have c10 : w1.cell? ⟨w.heap.size, 0, none⟩ = some (.int .i64 0) := by simp [World.cell?, b1]
    have f10 : w1.frozen? ⟨w.heap.size, 0, none⟩ = false := by first | (simp [World.frozen?, b1]; done)
    have c11 : w1.cell? ⟨w.heap.size, 1, none⟩ = some (.int .i64 0) := by simp [World.cell?, b1]
    have f11 : w1.frozen? ⟨w.heap.size, 1, none⟩ = false := by first | (simp [World.frozen?, b1]; done)
    have HA1 := Lib.hid hat1
    clear hat1 k1 k0 b0 hat0 hat c1
    go_wp2_with fail
    refine bodyPost_ret (results_dot2 rfl _ 0 0 rfl (by first | (go_simp; done)) (by first | (go_simp; done))) rfl ?_
    refine ⟨by first | rfl, SourceRead.end5 HA1.out K1 hv1 hg hv (((Kept.refl _ w1).setCell (p := ⟨w.heap.size, 0, none⟩) (fun _ => Nat.le_refl _) _).setCell (p := ⟨w.heap.size, 1, none⟩) (fun _ => Nat.le_refl _) _)⟩
  have hn1 := hle1 h1
  subst h1
  rw [if_pos rfl] at hD
  by_cases h2 : e2 = 0
  case neg =>
    rw [hD, if_neg h2]
    have h2' : (e2 != 0) = true := by simpa using h2
    go_enter Tryd.func12, Tryd.ntmps12
    go_wp2_with fail
    refine (c1 _ v hat0).mono ?_
    rintro e w1 ⟨rfl, v1, hat1, k1, hv1⟩
    have b1 := (k1.block w.heap.size hlt0 (by omega)).trans b0
    have hsz1 : w.heap.size < w1.heap.size := Nat.lt_of_lt_of_le hlt0 k1.size
    have K1 := k0.same k1
    have c10 : w1.cell? ⟨w.heap.size, 0, none⟩ = some (.int .i64 0) := by simp [World.cell?, b1]
    have f10 : w1.frozen? ⟨w.heap.size, 0, none⟩ = false := by first | (simp [World.frozen?, b1]; done)
    have c11 : w1.cell? ⟨w.heap.size, 1, none⟩ = some (.int .i64 0) := by simp [World.cell?, b1]
    have f11 : w1.frozen? ⟨w.heap.size, 1, none⟩ = false := by first | (simp [World.frozen?, b1]; done)
    have HA1 := Lib.hid hat1
    clear hat1 k1 k0 b0 hat0 hat c1
    go_wp2_with fail
    refine (c2 _ v1 HA1.out).mono ?_
    rintro e w2 ⟨rfl, v2, hat2, k2, hv2⟩
    have b2 := (k2.block w.heap.size hsz1 (by omega)).trans b1
    have hsz2 : w.heap.size < w2.heap.size := Nat.lt_of_lt_of_le hsz1 k2.size
    have K2 := K1.same k2
    have hv2' := hv2.trans hv1
    have c20 : w2.cell? ⟨w.heap.size, 0, none⟩ = some (.int .i64 0) := by simp [World.cell?, b2]
    have f20 : w2.frozen? ⟨w.heap.size, 0, none⟩ = false := by first | (simp [World.frozen?, b2]; done)
    have c21 : w2.cell? ⟨w.heap.size, 1, none⟩ = some (.int .i64 0) := by simp [World.cell?, b2]
    have f21 : w2.frozen? ⟨w.heap.size, 1, none⟩ = false := by first | (simp [World.frozen?, b2]; done)
    have HA2 := Lib.hid hat2
    clear hat2 k2 c2 HA1 K1 b1 c10 c11 f10 f11 hv1 hv2 hsz1
    go_wp2_with fail
    refine bodyPost_ret (results_dot2 rfl _ 0 0 rfl (by first | (go_simp; done)) (by first | (go_simp; done))) rfl ?_
    refine ⟨by first | rfl, SourceRead.end5 HA2.out K2 hv2' hg hv (((Kept.refl _ w2).setCell (p := ⟨w.heap.size, 0, none⟩) (fun _ => Nat.le_refl _) _).setCell (p := ⟨w.heap.size, 1, none⟩) (fun _ => Nat.le_refl _) _)⟩
  have hn2 := hle2 h2
  subst h2
  rw [if_pos rfl] at hD
  have wr1 : IntKind.i64.wrap (n1 : Int) = n1 := IntWalk.i64_in _ (by omega)
  have wr2 : IntKind.i64.wrap (n2 : Int) = n2 := IntWalk.i64_in _ (by omega)
  by_cases h3 : n2 = 0
  case pos =>
    subst h3
    rw [hD, if_pos rfl]
    go_enter Tryd.func12, Tryd.ntmps12
    go_wp2_with fail
    refine (c1 _ v hat0).mono ?_
    rintro e w1 ⟨rfl, v1, hat1, k1, hv1⟩
    have b1 := (k1.block w.heap.size hlt0 (by omega)).trans b0
    have hsz1 : w.heap.size < w1.heap.size := Nat.lt_of_lt_of_le hlt0 k1.size
    have K1 := k0.same k1
    have c10 : w1.cell? ⟨w.heap.size, 0, none⟩ = some (.int .i64 0) := by simp [World.cell?, b1]
    have f10 : w1.frozen? ⟨w.heap.size, 0, none⟩ = false := by first | (simp [World.frozen?, b1]; done)
    have c11 : w1.cell? ⟨w.heap.size, 1, none⟩ = some (.int .i64 0) := by simp [World.cell?, b1]
    have f11 : w1.frozen? ⟨w.heap.size, 1, none⟩ = false := by first | (simp [World.frozen?, b1]; done)
    have HA1 := Lib.hid hat1
    clear hat1 k1 k0 b0 hat0 hat c1
    go_wp2_with fail
    refine (c2 _ v1 HA1.out).mono ?_
    rintro e w2 ⟨rfl, v2, hat2, k2, hv2⟩
    have b2 := (k2.block w.heap.size hsz1 (by omega)).trans b1
    have hsz2 : w.heap.size < w2.heap.size := Nat.lt_of_lt_of_le hsz1 k2.size
    have K2 := K1.same k2
    have hv2' := hv2.trans hv1
    have c20 : w2.cell? ⟨w.heap.size, 0, none⟩ = some (.int .i64 0) := by simp [World.cell?, b2]
    have f20 : w2.frozen? ⟨w.heap.size, 0, none⟩ = false := by first | (simp [World.frozen?, b2]; done)
    have c21 : w2.cell? ⟨w.heap.size, 1, none⟩ = some (.int .i64 0) := by simp [World.cell?, b2]
    have f21 : w2.frozen? ⟨w.heap.size, 1, none⟩ = false := by first | (simp [World.frozen?, b2]; done)
    have HA2 := Lib.hid hat2
    clear hat2 k2 c2 HA1 K1 b1 c10 c11 f10 f11 hv1 hv2 hsz1
    go_wp2_with fail
    refine (pDCheck_any _ _ _).mono ?_
    rintro e w3 ⟨rfl, h3'⟩
    rw [checkD_no (fun h => by unfold DotOk at h; omega)]
    have c30 : w3.cell? ⟨w.heap.size, 0, none⟩ = some (.int .i64 0) := cell_on h3' (by go_simp)
    have f30 : w3.frozen? ⟨w.heap.size, 0, none⟩ = false := frozen_on h3' (by simp [World.size_alloc]; omega) (by go_simp)
    have c31 : w3.cell? ⟨w.heap.size, 1, none⟩ = some (.int .i64 0) := cell_on h3' (by go_simp)
    have f31 : w3.frozen? ⟨w.heap.size, 1, none⟩ = false := frozen_on h3' (by simp [World.size_alloc]; omega) (by go_simp)
    have d30 : w3.cell? ⟨w2.heap.size, 0, none⟩ = some (.int .i64 (n1 : Int)) := cell_on h3' (by go_simp)
    have d31 : w3.cell? ⟨w2.heap.size, 1, none⟩ = some (.int .i64 0) := cell_on h3' (by go_simp)
    have K3 : Kept (fun j => w.heap.size ≤ j) w2 w3 := by
      first | exact (((Kept.refl _ w2).alloc _).trans (Kept.of_below h3' (Nat.le_refl _) (fun _ => False)) (fun _ _ h => h.elim))
    go_wp2_with fail
    refine bodyPost_ret (results_dot2 rfl _ 0 0 rfl (by first | (go_simp; done)) (by first | (go_simp; done))) rfl ?_
    refine ⟨by first | rfl, SourceRead.end5 HA2.out K2 hv2' hg hv ((K3.setCell (p := ⟨w.heap.size, 0, none⟩) (fun _ => Nat.le_refl _) _).setCell (p := ⟨w.heap.size, 1, none⟩) (fun _ => Nat.le_refl _) _)⟩
  rw [hD, if_neg h3]
  have h3b : ((n2 : Int) == 0) = false := by simp; omega
  go_enter Tryd.func12, Tryd.ntmps12
  go_wp2_with fail
  refine (c1 _ v hat0).mono ?_
  rintro e w1 ⟨rfl, v1, hat1, k1, hv1⟩
  have b1 := (k1.block w.heap.size hlt0 (by omega)).trans b0
  have hsz1 : w.heap.size < w1.heap.size := Nat.lt_of_lt_of_le hlt0 k1.size
  have K1 := k0.same k1
  have c10 : w1.cell? ⟨w.heap.size, 0, none⟩ = some (.int .i64 0) := by simp [World.cell?, b1]
  have f10 : w1.frozen? ⟨w.heap.size, 0, none⟩ = false := by first | (simp [World.frozen?, b1]; done)
  have c11 : w1.cell? ⟨w.heap.size, 1, none⟩ = some (.int .i64 0) := by simp [World.cell?, b1]
  have f11 : w1.frozen? ⟨w.heap.size, 1, none⟩ = false := by first | (simp [World.frozen?, b1]; done)
  have HA1 := Lib.hid hat1
  clear hat1 k1 k0 b0 hat0 hat c1
  go_wp2_with fail
  refine (c2 _ v1 HA1.out).mono ?_
  rintro e w2 ⟨rfl, v2, hat2, k2, hv2⟩
  have b2 := (k2.block w.heap.size hsz1 (by omega)).trans b1
  have hsz2 : w.heap.size < w2.heap.size := Nat.lt_of_lt_of_le hsz1 k2.size
  have K2 := K1.same k2
  have hv2' := hv2.trans hv1
  have c20 : w2.cell? ⟨w.heap.size, 0, none⟩ = some (.int .i64 0) := by simp [World.cell?, b2]
  have f20 : w2.frozen? ⟨w.heap.size, 0, none⟩ = false := by first | (simp [World.frozen?, b2]; done)
  have c21 : w2.cell? ⟨w.heap.size, 1, none⟩ = some (.int .i64 0) := by simp [World.cell?, b2]
  have f21 : w2.frozen? ⟨w.heap.size, 1, none⟩ = false := by first | (simp [World.frozen?, b2]; done)
  have HA2 := Lib.hid hat2
  clear hat2 k2 c2 HA1 K1 b1 c10 c11 f10 f11 hv1 hv2 hsz1
  go_wp2_with fail
  refine (pDCheck_any _ _ _).mono ?_
  rintro e w3 ⟨rfl, h3'⟩
  rw [checkD_ok (by unfold DotOk; omega)]
  have c30 : w3.cell? ⟨w.heap.size, 0, none⟩ = some (.int .i64 0) := cell_on h3' (by go_simp)
  have f30 : w3.frozen? ⟨w.heap.size, 0, none⟩ = false := frozen_on h3' (by simp [World.size_alloc]; omega) (by go_simp)
  have c31 : w3.cell? ⟨w.heap.size, 1, none⟩ = some (.int .i64 0) := cell_on h3' (by go_simp)
  have f31 : w3.frozen? ⟨w.heap.size, 1, none⟩ = false := frozen_on h3' (by simp [World.size_alloc]; omega) (by go_simp)
  have d30 : w3.cell? ⟨w2.heap.size, 0, none⟩ = some (.int .i64 (n1 : Int)) := cell_on h3' (by go_simp)
  have d31 : w3.cell? ⟨w2.heap.size, 1, none⟩ = some (.int .i64 (n2 : Int)) := cell_on h3' (by go_simp)
  have K3 : Kept (fun j => w.heap.size ≤ j) w2 w3 := by
    first | exact (((Kept.refl _ w2).alloc _).trans (Kept.of_below h3' (Nat.le_refl _) (fun _ => False)) (fun _ _ h => h.elim))
  go_wp2_with fail
  refine bodyPost_ret (results_dot2 rfl _ (n1 : Int) (n2 : Int) rfl (by first | (go_simp; done)) (by first | (go_simp; done))) rfl ?_
  refine ⟨by first | rfl, SourceRead.end5 HA2.out K2 hv2' hg hv ((K3.setCell (p := ⟨w.heap.size, 0, none⟩) (fun _ => Nat.le_refl _) _).setCell (p := ⟨w.heap.size, 1, none⟩) (fun _ => Nat.le_refl _) _)⟩

set_option maxHeartbeats 1000000 in
theorem r5Decode_any (w : World) (g : Nat) (v : Value) (xs : List UInt8) (hat : RefAt w g v xs) (hlen : xs.length ≤ 140737488355328) :
    Calls Tryd.prog 13 #[.pointer (some ⟨g, 0, none⟩)] w fun e W' => e = .returned (.tuple #[DotV (decD xs).2.1.1 (decD xs).2.1.2, .int .i64 (decD xs).1]) ∧ RefRead w g v (decD xs).2.2 W' := by
  have hg := hat.box.lt
  have hv : ∀ j, v.ownBlock = some j → j < w.heap.size := fun j hj => (hat.row j hj).1
  have hat0 : RefAt (w.alloc (.cells #[.int .i64 0, .int .i64 0] 23)) g v xs := hat.kept (T := fun _ => False) ((Kept.refl _ w).alloc _) (fun h => h) (fun _ _ h => h)
  have k0 : Kept (fun j => j = g) w (w.alloc (.cells #[.int .i64 0, .int .i64 0] 23)) := (Kept.refl _ w).alloc _
  have b0 : (w.alloc (.cells #[.int .i64 0, .int .i64 0] 23)).heap[w.heap.size]? = some (.cells #[.int .i64 0, .int .i64 0] 23) := by show (w.heap.push _)[w.heap.size]? = _; exact Array.getElem?_push_size
  have hlt0 : w.heap.size < (w.alloc (.cells #[.int .i64 0, .int .i64 0] 23)).heap.size := by rw [World.size_alloc]; omega
  obtain ⟨e1, n1, xs1, hr1⟩ : ∃ a b c, numB 15 xs = (a, b, c) := ⟨_, _, _, rfl⟩
  obtain ⟨e2, n2, xs2, hr2⟩ : ∃ a b c, numB 4294967295 xs1 = (a, b, c) := ⟨_, _, _, rfl⟩
  have hD : decD xs = if e1 = 0 then if e2 = 0 then if n2 = 0 then (50, (0, 0), xs2) else (0, ((n1 : Int), (n2 : Int)), xs2) else (e2, (0, 0), xs2) else (e1, (0, 0), xs1) := by simp [decD, hr1, hr2]
  have hle1 : e1 = 0 → n1 ≤ 15 := by have := numB_le (most := 15) (xs := xs); rw [hr1] at this; exact this
  have hle2 : e2 = 0 → n2 ≤ 4294967295 := by have := numB_le (most := 4294967295) (xs := xs1); rw [hr2] at this; exact this
  have hlf1 : xs1.length ≤ xs.length := by have := numB_left 15 xs; rw [hr1] at this; exact this
  have c1 : ∀ W v', RefAt W g v' xs → Calls Tryd.prog 35 #[.pointer (some ⟨g, 0, none⟩), .int .u64 15] W fun e W' => e = .returned (.tuple #[.int .u64 (n1 : Int), .int .i64 e1]) ∧ RefRead W g v' xs1 W' := fun W v' h => by have := RefNumB_any W g v' xs h hlen 15; rw [hr1] at this; exact this
  have c2 : ∀ W v', RefAt W g v' xs1 → Calls Tryd.prog 35 #[.pointer (some ⟨g, 0, none⟩), .int .u64 4294967295] W fun e W' => e = .returned (.tuple #[.int .u64 (n2 : Int), .int .i64 e2]) ∧ RefRead W g v' xs2 W' := fun W v' h => by have := RefNumB_any W g v' xs1 h (by omega) 4294967295; rw [hr2] at this; exact this
  clear hr1 hr2
  by_cases h1 : e1 = 0
  case neg =>
    rw [hD, if_neg h1]
    have h1' : (e1 != 0) = true := by simpa using h1
    go_enter Tryd.func13, Tryd.ntmps13
    go_wp2_with fail
    refine (c1 _ v hat0).mono ?_
    rintro e w1 ⟨rfl, v1, hat1, k1, hv1⟩
    have b1 := (k1.block w.heap.size hlt0 (by omega)).trans b0
    have hsz1 : w.heap.size < w1.heap.size := Nat.lt_of_lt_of_le hlt0 k1.size
    have K1 := k0.same k1
    have c10 : w1.cell? ⟨w.heap.size, 0, none⟩ = some (.int .i64 0) := by simp [World.cell?, b1]
    have f10 : w1.frozen? ⟨w.heap.size, 0, none⟩ = false := by first | (simp [World.frozen?, b1]; done)
    have c11 : w1.cell? ⟨w.heap.size, 1, none⟩ = some (.int .i64 0) := by simp [World.cell?, b1]
    have f11 : w1.frozen? ⟨w.heap.size, 1, none⟩ = false := by first | (simp [World.frozen?, b1]; done)
    have HA1 := Lib.hid hat1
    clear hat1 k1 k0 b0 hat0 hat c1
    go_wp2_with fail
    refine bodyPost_ret (results_dot2 rfl _ 0 0 rfl (by first | (go_simp; done)) (by first | (go_simp; done))) rfl ?_
    refine ⟨by first | rfl, RefRead.end5 HA1.out K1 hv1 hg hv (((Kept.refl _ w1).setCell (p := ⟨w.heap.size, 0, none⟩) (fun _ => Nat.le_refl _) _).setCell (p := ⟨w.heap.size, 1, none⟩) (fun _ => Nat.le_refl _) _)⟩
  have hn1 := hle1 h1
  subst h1
  rw [if_pos rfl] at hD
  by_cases h2 : e2 = 0
  case neg =>
    rw [hD, if_neg h2]
    have h2' : (e2 != 0) = true := by simpa using h2
    go_enter Tryd.func13, Tryd.ntmps13
    go_wp2_with fail
    refine (c1 _ v hat0).mono ?_
    rintro e w1 ⟨rfl, v1, hat1, k1, hv1⟩
    have b1 := (k1.block w.heap.size hlt0 (by omega)).trans b0
    have hsz1 : w.heap.size < w1.heap.size := Nat.lt_of_lt_of_le hlt0 k1.size
    have K1 := k0.same k1
    have c10 : w1.cell? ⟨w.heap.size, 0, none⟩ = some (.int .i64 0) := by simp [World.cell?, b1]
    have f10 : w1.frozen? ⟨w.heap.size, 0, none⟩ = false := by first | (simp [World.frozen?, b1]; done)
    have c11 : w1.cell? ⟨w.heap.size, 1, none⟩ = some (.int .i64 0) := by simp [World.cell?, b1]
    have f11 : w1.frozen? ⟨w.heap.size, 1, none⟩ = false := by first | (simp [World.frozen?, b1]; done)
    have HA1 := Lib.hid hat1
    clear hat1 k1 k0 b0 hat0 hat c1
    go_wp2_with fail
    refine (c2 _ v1 HA1.out).mono ?_
    rintro e w2 ⟨rfl, v2, hat2, k2, hv2⟩
    have b2 := (k2.block w.heap.size hsz1 (by omega)).trans b1
    have hsz2 : w.heap.size < w2.heap.size := Nat.lt_of_lt_of_le hsz1 k2.size
    have K2 := K1.same k2
    have hv2' := hv2.trans hv1
    have c20 : w2.cell? ⟨w.heap.size, 0, none⟩ = some (.int .i64 0) := by simp [World.cell?, b2]
    have f20 : w2.frozen? ⟨w.heap.size, 0, none⟩ = false := by first | (simp [World.frozen?, b2]; done)
    have c21 : w2.cell? ⟨w.heap.size, 1, none⟩ = some (.int .i64 0) := by simp [World.cell?, b2]
    have f21 : w2.frozen? ⟨w.heap.size, 1, none⟩ = false := by first | (simp [World.frozen?, b2]; done)
    have HA2 := Lib.hid hat2
    clear hat2 k2 c2 HA1 K1 b1 c10 c11 f10 f11 hv1 hv2 hsz1
    go_wp2_with fail
    refine bodyPost_ret (results_dot2 rfl _ 0 0 rfl (by first | (go_simp; done)) (by first | (go_simp; done))) rfl ?_
    refine ⟨by first | rfl, RefRead.end5 HA2.out K2 hv2' hg hv (((Kept.refl _ w2).setCell (p := ⟨w.heap.size, 0, none⟩) (fun _ => Nat.le_refl _) _).setCell (p := ⟨w.heap.size, 1, none⟩) (fun _ => Nat.le_refl _) _)⟩
  have hn2 := hle2 h2
  subst h2
  rw [if_pos rfl] at hD
  have wr1 : IntKind.i64.wrap (n1 : Int) = n1 := IntWalk.i64_in _ (by omega)
  have wr2 : IntKind.i64.wrap (n2 : Int) = n2 := IntWalk.i64_in _ (by omega)
  by_cases h3 : n2 = 0
  case pos =>
    subst h3
    rw [hD, if_pos rfl]
    go_enter Tryd.func13, Tryd.ntmps13
    go_wp2_with fail
    refine (c1 _ v hat0).mono ?_
    rintro e w1 ⟨rfl, v1, hat1, k1, hv1⟩
    have b1 := (k1.block w.heap.size hlt0 (by omega)).trans b0
    have hsz1 : w.heap.size < w1.heap.size := Nat.lt_of_lt_of_le hlt0 k1.size
    have K1 := k0.same k1
    have c10 : w1.cell? ⟨w.heap.size, 0, none⟩ = some (.int .i64 0) := by simp [World.cell?, b1]
    have f10 : w1.frozen? ⟨w.heap.size, 0, none⟩ = false := by first | (simp [World.frozen?, b1]; done)
    have c11 : w1.cell? ⟨w.heap.size, 1, none⟩ = some (.int .i64 0) := by simp [World.cell?, b1]
    have f11 : w1.frozen? ⟨w.heap.size, 1, none⟩ = false := by first | (simp [World.frozen?, b1]; done)
    have HA1 := Lib.hid hat1
    clear hat1 k1 k0 b0 hat0 hat c1
    go_wp2_with fail
    refine (c2 _ v1 HA1.out).mono ?_
    rintro e w2 ⟨rfl, v2, hat2, k2, hv2⟩
    have b2 := (k2.block w.heap.size hsz1 (by omega)).trans b1
    have hsz2 : w.heap.size < w2.heap.size := Nat.lt_of_lt_of_le hsz1 k2.size
    have K2 := K1.same k2
    have hv2' := hv2.trans hv1
    have c20 : w2.cell? ⟨w.heap.size, 0, none⟩ = some (.int .i64 0) := by simp [World.cell?, b2]
    have f20 : w2.frozen? ⟨w.heap.size, 0, none⟩ = false := by first | (simp [World.frozen?, b2]; done)
    have c21 : w2.cell? ⟨w.heap.size, 1, none⟩ = some (.int .i64 0) := by simp [World.cell?, b2]
    have f21 : w2.frozen? ⟨w.heap.size, 1, none⟩ = false := by first | (simp [World.frozen?, b2]; done)
    have HA2 := Lib.hid hat2
    clear hat2 k2 c2 HA1 K1 b1 c10 c11 f10 f11 hv1 hv2 hsz1
    go_wp2_with fail
    refine bodyPost_ret (results_dot2 rfl _ 0 0 rfl (by first | (go_simp; done)) (by first | (go_simp; done))) rfl ?_
    refine ⟨by first | rfl, RefRead.end5 HA2.out K2 hv2' hg hv (((Kept.refl _ w2).setCell (p := ⟨w.heap.size, 0, none⟩) (fun _ => Nat.le_refl _) _).setCell (p := ⟨w.heap.size, 1, none⟩) (fun _ => Nat.le_refl _) _)⟩
  rw [hD, if_neg h3]
  have h3b : ((n2 : Int) == 0) = false := by simp; omega
  go_enter Tryd.func13, Tryd.ntmps13
  go_wp2_with fail
  refine (c1 _ v hat0).mono ?_
  rintro e w1 ⟨rfl, v1, hat1, k1, hv1⟩
  have b1 := (k1.block w.heap.size hlt0 (by omega)).trans b0
  have hsz1 : w.heap.size < w1.heap.size := Nat.lt_of_lt_of_le hlt0 k1.size
  have K1 := k0.same k1
  have c10 : w1.cell? ⟨w.heap.size, 0, none⟩ = some (.int .i64 0) := by simp [World.cell?, b1]
  have f10 : w1.frozen? ⟨w.heap.size, 0, none⟩ = false := by first | (simp [World.frozen?, b1]; done)
  have c11 : w1.cell? ⟨w.heap.size, 1, none⟩ = some (.int .i64 0) := by simp [World.cell?, b1]
  have f11 : w1.frozen? ⟨w.heap.size, 1, none⟩ = false := by first | (simp [World.frozen?, b1]; done)
  have HA1 := Lib.hid hat1
  clear hat1 k1 k0 b0 hat0 hat c1
  go_wp2_with fail
  refine (c2 _ v1 HA1.out).mono ?_
  rintro e w2 ⟨rfl, v2, hat2, k2, hv2⟩
  have b2 := (k2.block w.heap.size hsz1 (by omega)).trans b1
  have hsz2 : w.heap.size < w2.heap.size := Nat.lt_of_lt_of_le hsz1 k2.size
  have K2 := K1.same k2
  have hv2' := hv2.trans hv1
  have c20 : w2.cell? ⟨w.heap.size, 0, none⟩ = some (.int .i64 0) := by simp [World.cell?, b2]
  have f20 : w2.frozen? ⟨w.heap.size, 0, none⟩ = false := by first | (simp [World.frozen?, b2]; done)
  have c21 : w2.cell? ⟨w.heap.size, 1, none⟩ = some (.int .i64 0) := by simp [World.cell?, b2]
  have f21 : w2.frozen? ⟨w.heap.size, 1, none⟩ = false := by first | (simp [World.frozen?, b2]; done)
  have HA2 := Lib.hid hat2
  clear hat2 k2 c2 HA1 K1 b1 c10 c11 f10 f11 hv1 hv2 hsz1
  go_wp2_with fail
  refine bodyPost_ret (results_dot2 rfl _ (n1 : Int) (n2 : Int) rfl (by first | (go_simp; done)) (by first | (go_simp; done))) rfl ?_
  refine ⟨by first | rfl, RefRead.end5 HA2.out K2 hv2' hg hv (((Kept.refl _ w2).setCell (p := ⟨w.heap.size, 0, none⟩) (fun _ => Nat.le_refl _) _).setCell (p := ⟨w.heap.size, 1, none⟩) (fun _ => Nat.le_refl _) _)⟩
end Go.Proofs.YtockdekhdjmklaaDoor
