/- A region that draws its order, in a round of a range over a function: first operations that change nothing, in any order, then the others in theirs. -/
import Derived.Test.YtljihmbmjpcfaaaGreatDrawnV
import Derived.StillTailTactics
namespace Go.Proofs.YtljihmbmjpcfaaaGreat
open Go
variable {P : Program} {Q : Exit → Act → World → Prop}

theorem wpIn_round_still {id lp k : Nat} {a : Act} {w : World} {l : List Oper} (n : Nat) (hm : P.follows .mixedOrders = true) (hB : Region.lexTailB .any l.toArray n = true) (hd : noDefer l.toArray = true)
    (h : wpStill P l.toArray w.drew (fun a' => wpList P l.toArray (only (Q .normal)) (l.drop n) a' w.drew) (l.take n) a) : (Code.region id l.toArray true).wpIn (Fence.wide.inRound lp) k P Q a w := by
  have hB' := hB
  simp only [Region.lexTailB, Bool.and_eq_true, decide_eq_true_eq] at hB'
  obtain ⟨⟨⟨⟨h1, h2⟩, h3⟩, h4⟩, h5⟩ := hB'
  have hlt : n < l.length := by simpa using h2
  have lt : (l.take n).length = n := by rw [List.length_take]; omega
  have ld : (l.drop n).length = l.toArray.size - n := by rw [List.length_drop]; rfl
  have h0 : HeadInv .any l.toArray n (Array.replicate l.toArray.size false) := by
    refine ⟨by simp, ?_, fun t _ ht => getD_in (by simpa using ht) (getD_replicate_false _ _)⟩
    intro j oj _ hl
    rw [getD_replicate_false] at hl
    cases hl
  have hL := wpAnyL_lex (md := .any) (g := l.toArray.size - n) h1 h3 h4 h2 (l.take n) 0 _ a (fun j hj => by
    rw [lt] at hj
    simp [hj]) (by rw [Nat.zero_add]; exact lt) h0 (by rw [lt]; exact h5) h
  have hA := wpAny_of_head (Q' := only (Q .normal)) (g := l.toArray.size - n) (fun listed a' hp => by
    have hq := wpAny_of_seq (md := .any) (Q' := only (Q .normal)) (l.drop n) n listed a' w.drew (fun j => by simp [List.getElem?_drop]) (by rw [ld]; exact hp.1) hp.2
    rw [ld] at hq
    exact hq) _ _ _ hL
  rw [lt, show n + (l.toArray.size - n) = l.toArray.size by omega] at hA
  exact wpIn_only (wpIn_region_any hm (wpAnyIn_of_wpAny (only_not _) hd _ _ _ _ hA))

theorem wpStill_value {ops : Array Oper} {R : Act → Prop} {o : Oper} {rest : List Oper} {a : Act} {w : World} (hg : o.guard = none) (v : Value) (hrun : (execOp a.eval o).run P w = .ok (.value v) w) (h : wpStill P ops w R rest (a.put o.dst v)) : wpStill P ops w R (o :: rest) a := by
  refine wpStill_step (fun K hK => ?_)
  rw [if_pos (by simp [Region.wanted, hg])]
  unfold Oper.still
  rw [hrun]
  exact ⟨rfl, hK _ h⟩
end Go.Proofs.YtljihmbmjpcfaaaGreat
