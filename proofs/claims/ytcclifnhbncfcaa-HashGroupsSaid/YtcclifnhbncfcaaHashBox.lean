/- Chains, constants, hashes that go on: as values, in variables. -/
import Derived.Test.YtcclifnhbncfcaaBoxE
import Derived.Test.YtcclifnhbncfcaaHashFrac
namespace Go.Proofs.Ytcclifnhbncfcaa
open Go.RowKit Go.Shelf Go.Great
set_option maxRecDepth 100000

def wds (l : List Nat) : List Value := l.map Wd
theorem wds_length (l : List Nat) : (wds l).length = l.length := by simp [wds]
theorem wds_one (l : List Nat) : ∀ u ∈ wds l, u.oneCell' = true := by
  intro u hu
  obtain ⟨i, _, rfl⟩ := List.mem_map.1 hu
  rfl
theorem wds_get {l : List Nat} {i x : Nat} (h : l[i]? = some x) : (wds l)[i]? = some (.int .u32 (x : Int)) := by
  rw [wds, List.getElem?_map, h]
  rfl
theorem wds_set (l : List Nat) (i x : Nat) : (wds l).set i (.int .u32 (x : Int)) = wds (l.set i x) := by
  rw [wds, wds, List.map_set]
/-- A chain. -/
structure Ch where
  l : List Nat
  h : l.length = 8
def eCh : Elt Ch := ⟨fun c => wds c.l, 8, by omega, fun c => by rw [wds_length, c.h], fun c => wds_one c.l⟩
/-- Sixteen words. -/
structure W16 where
  l : List Nat
  h : l.length = 16
def eW16 : Elt W16 := ⟨fun c => wds c.l, 16, by omega, fun c => by rw [wds_length, c.h], fun c => wds_one c.l⟩
/-- Constants. -/
structure Cn where
  b : List Nat
  r : List Nat
  hb : b.length = 8
  hr : r.length = 64
def encCn (c : Cn) : List Value := wds c.b ++ wds c.r
def eCn : Elt Cn := ⟨encCn, 72, by omega, fun c => by rw [encCn, List.length_append, wds_length, wds_length, c.hb, c.hr], fun c u hu => by
  rcases List.mem_append.1 hu with h | h
  · exact wds_one _ u h
  · exact wds_one _ u h⟩
/-- A hash that goes on. -/
structure Rn where
  c : List Nat
  b : List UInt8
  n : Nat
  hc : c.length = 8
  hb : b.length = 64
def encRn (r : Rn) : List Value := wds r.c ++ (r.b.map B8 ++ [.int .i64 (r.n : Int)])
def eRn : Elt Rn := ⟨encRn, 73, by omega, fun r => by simp [encRn, wds_length, r.hc, r.hb], fun r u hu => by
  rcases List.mem_append.1 hu with h | h
  · exact wds_one _ u h
  · rcases List.mem_append.1 h with h | h
    · obtain ⟨i, _, rfl⟩ := List.mem_map.1 h
      rfl
    · simp at h
      subst h
      rfl⟩
def zeroCh : Ch := ⟨List.replicate 8 0, rfl⟩
def zeroCn : Cn := ⟨List.replicate 8 0, List.replicate 64 0, rfl, rfl⟩
def zeroRn : Rn := ⟨List.replicate 8 0, List.replicate 64 0, 0, rfl, rfl⟩
def zero16 : W16 := ⟨List.replicate 16 0, rfl⟩
theorem zeroCh_run (w : World) : (zeroValue 95).run Try.prog w = .ok (eCh.val zeroCh) w := by
  have h : (Try.prog.info? 95).map (·.zero) = some (some (eCh.val zeroCh)) := by kernel_rfl
  obtain ⟨i, hi, hz⟩ := Option.map_eq_some_iff.1 h
  simp [zeroValue, typeInfo, hi, hz]
theorem zeroCn_run (w : World) : (zeroValue 98).run Try.prog w = .ok (eCn.val zeroCn) w := by
  have h : (Try.prog.info? 98).map (·.zero) = some (some (eCn.val zeroCn)) := by kernel_rfl
  obtain ⟨i, hi, hz⟩ := Option.map_eq_some_iff.1 h
  simp [zeroValue, typeInfo, hi, hz]
theorem zeroRn_run (w : World) : (zeroValue 101).run Try.prog w = .ok (eRn.val zeroRn) w := by
  have h : (Try.prog.info? 101).map (·.zero) = some (some (eRn.val zeroRn)) := by kernel_rfl
  obtain ⟨i, hi, hz⟩ := Option.map_eq_some_iff.1 h
  simp [zeroValue, typeInfo, hi, hz]
theorem zero16_run (w : World) : (zeroValue 172).run Try.prog w = .ok (eW16.val zero16) w := by
  have h : (Try.prog.info? 172).map (·.zero) = some (some (eW16.val zero16)) := by kernel_rfl
  obtain ⟨i, hi, hz⟩ := Option.map_eq_some_iff.1 h
  simp [zeroValue, typeInfo, hi, hz]
theorem sizeCh : (Try.prog.info? 95).map (·.size) = some eCh.k := by kernel_rfl
theorem sizeCn : (Try.prog.info? 98).map (·.size) = some eCn.k := by kernel_rfl
theorem sizeRn : (Try.prog.info? 101).map (·.size) = some eRn.k := by kernel_rfl
theorem size16 : (Try.prog.info? 172).map (·.size) = some eW16.k := by kernel_rfl
section
variable {W : World} {b o : Nat}
theorem ChAt.at {x : Ch} (h : ElAt eCh W b o x) {i y : Nat} (hy : x.l[i]? = some y) : W.cell? ⟨b, o + i, none⟩ = some (.int .u32 (y : Int)) := h i _ (wds_get hy)
theorem CnAt.beg {x : Cn} (h : ElAt eCn W b o x) : ElAt eCh W b o ⟨x.b, x.hb⟩ := rangeAt_left h
theorem CnAt.rounds {x : Cn} (h : ElAt eCn W b o x) {i y : Nat} (hy : x.r[i]? = some y) : W.cell? ⟨b, o + 8 + i, none⟩ = some (.int .u32 (y : Int)) := by
  have := rangeAt_right h
  rw [wds_length, x.hb] at this
  exact this i _ (wds_get hy)
theorem RnAt.chain {x : Rn} (h : ElAt eRn W b o x) : ElAt eCh W b o ⟨x.c, x.hc⟩ := rangeAt_left h
theorem RnAt.block {x : Rn} (h : ElAt eRn W b o x) : W.rangeAt b (o + 8) (x.b.map B8) := by
  have := rangeAt_right h
  rw [wds_length, x.hc] at this
  exact rangeAt_left this
theorem RnAt.len {x : Rn} (h : ElAt eRn W b o x) : W.cell? ⟨b, o + 72, none⟩ = some (.int .i64 (x.n : Int)) := by
  have := rangeAt_right (rangeAt_right h)
  rw [wds_length, x.hc, List.length_map, x.hb, Nat.add_assoc] at this
  exact rangeAt_head this
end
end Go.Proofs.Ytcclifnhbncfcaa
