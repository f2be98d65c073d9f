/- A list of calls (Op) in memory; great. -/
import Derived.Test.YtbkbogblbniogaaLebLawA
import Derived.IntWalk
namespace Go.Proofs.Ytbkbogblbniogaa
open Go.RowKit

/-- A call, as it is read: its kind, its number, its slice, and the bytes that this reads as. -/
structure OpV where
  kind : Int
  m : Int
  n : Nat
  v : Value
  bs : List UInt8

/-- Element i of a slice of calls at b, off. -/
structure OpAt (w : World) (b off : Nat) (i : Nat) (o : OpV) : Prop where
  c0 : w.cell? ⟨b, off + i * 4, none⟩ = some (.int .i64 o.kind)
  c1 : w.cell? ⟨b, off + i * 4 + 1, none⟩ = some (.int .i64 o.m)
  c2 : w.cell? ⟨b, off + i * 4 + 2, none⟩ = some (.int .u64 o.n)
  c3 : w.cell? ⟨b, off + i * 4 + 3, none⟩ = some o.v
  bytes : Bs w o.v o.bs
  small : o.n < 18446744073709551616
  short : o.bs.length ≤ 140737488355328
  mw : o.m ≤ 9223372036854775807

/-- All of them. -/
def OpsAt (w : World) (b off : Nat) (l : List OpV) : Prop := ∀ i o, l[i]? = some o → OpAt w b off i o

def total (l : List OpV) : Nat := (l.map fun o => o.bs.length).sum

theorem OpAt.lt {w : World} {b off i : Nat} {o : OpV} (h : OpAt w b off i o) : b < w.heap.size := World.block_lt_of_cell? w _ h.c0
theorem OpAt.below {w w' : World} {b off i : Nat} {o : OpV} (h : OpAt w b off i o) (hb : Below w.heap.size w w') : OpAt w' b off i o :=
  ⟨(hb.cell (p := ⟨b, _, none⟩) h.lt).trans h.c0, (hb.cell (p := ⟨b, _, none⟩) h.lt).trans h.c1, (hb.cell (p := ⟨b, _, none⟩) h.lt).trans h.c2, (hb.cell (p := ⟨b, _, none⟩) h.lt).trans h.c3, h.bytes.below hb, h.small, h.short, h.mw⟩

theorem total_take_succ (l : List OpV) (k : Nat) (o : OpV) (h : l[k]? = some o) : total (l.take (k + 1)) = total (l.take k) + o.bs.length := by
  unfold total
  have hk : k < l.length := (List.getElem?_eq_some_iff.1 h).1
  rw [List.take_succ_eq_append_getElem hk]
  have : l[k] = o := by rw [List.getElem?_eq_getElem hk] at h; exact Option.some.inj h
  simp [this]

theorem total_le {w : World} {b off : Nat} {l : List OpV} (hl : OpsAt w b off l) : ∀ k, k ≤ l.length → total (l.take k) ≤ k * 140737488355328 := by
  intro k
  induction k with
  | zero => intro _; simp [total]
  | succ k ih =>
    intro hk
    have ho : l[k]? = some l[k] := List.getElem?_eq_getElem (by omega)
    rw [total_take_succ l k _ ho]
    have h1 := ih (by omega)
    have h2 := (hl k _ ho).short
    omega

/-- What a call writes. -/
def opBytes (o : OpV) : List UInt8 := if o.kind = 0 then lebB o.n else if o.kind = 1 then lebB o.bs.length ++ o.bs else if o.kind = 2 then o.bs else []
def wrote (l : List OpV) : List UInt8 := l.flatMap opBytes

theorem opBytes_le {w : World} {b off i : Nat} {o : OpV} (h : OpAt w b off i o) : (opBytes o).length ≤ 10 + o.bs.length := by
  unfold opBytes
  have h1 := lebB_u64 h.small
  have h2 := lebB_u64 (n := o.bs.length) (by have := h.short; omega)
  split
  · omega
  · split
    · simp; omega
    · split <;> simp
theorem wrote_take_succ (l : List OpV) (k : Nat) (o : OpV) (h : l[k]? = some o) : wrote (l.take (k + 1)) = wrote (l.take k) ++ opBytes o := by
  unfold wrote
  have hk : k < l.length := (List.getElem?_eq_some_iff.1 h).1
  rw [List.take_succ_eq_append_getElem hk]
  have : l[k] = o := by rw [List.getElem?_eq_getElem hk] at h; exact Option.some.inj h
  simp [this]
theorem wrote_drop (l : List OpV) (k : Nat) (o : OpV) (h : l[k]? = some o) : wrote (l.drop k) = opBytes o ++ wrote (l.drop (k + 1)) := by
  unfold wrote
  have hk : k < l.length := (List.getElem?_eq_some_iff.1 h).1
  have : l[k] = o := by rw [List.getElem?_eq_getElem hk] at h; exact Option.some.inj h
  rw [List.drop_eq_getElem_cons hk]
  simp [this]
theorem wrote_le {w : World} {b off : Nat} {l : List OpV} (hl : OpsAt w b off l) : ∀ k, k ≤ l.length → (wrote (l.take k)).length ≤ 10 * k + total (l.take k) := by
  intro k
  induction k with
  | zero => intro _; simp [wrote]
  | succ k ih =>
    intro hk
    have ho : l[k]? = some l[k] := List.getElem?_eq_getElem (by omega)
    rw [wrote_take_succ l k _ ho, total_take_succ l k _ ho, List.length_append]
    have h1 := ih (by omega)
    have h2 := opBytes_le (hl k _ ho)
    omega
theorem total_mono (l : List OpV) (k : Nat) : total (l.take k) ≤ total l := by
  have h2 : ∀ a c : List OpV, total (a ++ c) = total a + total c := fun a c => by simp [total]
  have h := h2 (l.take k) (l.drop k)
  rw [List.take_append_drop] at h
  omega

theorem num_back {n : Nat} (hn : n < 18446744073709551616) (rest : List UInt8) : back (lebB n ++ rest) (numRes n (lebB n ++ rest)) = (0, n, rest) := by
  unfold back numRes
  rw [scan_read hn rest]
  simp
theorem raw_back (bs rest : List UInt8) : back (bs ++ rest) (rawRes (bs.length : Int) (bs ++ rest)) = (0, bs, rest) := by
  unfold back rawRes
  rw [if_neg (by omega), if_neg (by simp; omega)]
  simp
theorem bytes_back (bs rest : List UInt8) (hl : bs.length < 18446744073709551616) : back (lebB bs.length ++ bs ++ rest) (bytesRes (bs.length : Int) (lebB bs.length ++ bs ++ rest)) = (0, bs, rest) := by
  unfold bytesRes
  have h : numRes (bs.length : Int).toNat (lebB bs.length ++ bs ++ rest) = (0, bs.length, bs ++ rest) := by
    unfold numRes
    rw [List.append_assoc, scan_read hl (bs ++ rest)]
    simp
  rw [h]
  simp only [ne_eq, not_true, if_false]
  have h2 := raw_back bs rest
  unfold back at h2 ⊢
  simp only [Prod.mk.injEq] at h2 ⊢
  obtain ⟨h3, h4, h5⟩ := h2
  rw [if_pos h3] at h5
  exact ⟨h3, h4, by rw [if_pos h3]; exact h5⟩

theorem SinkWrote.step {w0 W w' : World} {n g : Nat} {v : Value} {xs ys : List UInt8} (hB : Below n w0 W) (hn : n ≤ W.heap.size) (hg : n ≤ g) (hat : SinkAt W n g v xs) (h : SinkWrote W n g v ys w') : ∃ v', SinkAt w' n g v' ys ∧ Below n w0 w' := by
  obtain ⟨v', h1, h2, _⟩ := h
  refine ⟨v', h1, hB.trans (h2.below (fun j _ t => ?_) hn)⟩
  rcases t with t | t
  · omega
  · exact (hat.row.lt j t).1
theorem SinkAt.alloc {W : World} {n g : Nat} {v : Value} {xs : List UInt8} (h : SinkAt W n g v xs) (o : Obj) : SinkAt (W.alloc o) n g v xs :=
  h.kept (T := fun _ => False) ((Kept.refl _ _).alloc o) (fun h => h) (fun _ _ h => h)
end Go.Proofs.Ytbkbogblbniogaa
