/- A Sink, bytes that are wanted, and bytes of one's own: three rows that lie apart. -/
import Derived.Test.YtbkbogblbniogaaLebOps
import Derived.Test.YtbkbogblbniogaaLebRef
import Derived.Laws.OwnMore
namespace Go.Proofs.Ytbkbogblbniogaa
open Go.RowKit


/-- A Sink and the bytes that are wanted. -/
structure Two (W : World) (n g : Nat) (v u : Value) (xs ys : List UInt8) : Prop where
  sink : SinkAt W n g v xs
  want : Row W n u ys
  uv : ∀ j, u.ownBlock = some j → v.ownBlock ≠ some j

theorem Two.kept {T : Nat → Prop} {W W' : World} {n g : Nat} {v u : Value} {xs ys : List UInt8} (h : Two W n g v u xs ys) (k : Kept T W W') (hg : ¬ T g) (hv : ∀ j, v.ownBlock = some j → ¬ T j) (hu : ∀ j, u.ownBlock = some j → ¬ T j) : Two W' n g v u xs ys :=
  ⟨h.sink.kept k hg hv, k.owns h.want hu, h.uv⟩
theorem Two.below {W W' : World} {n g : Nat} {v u : Value} {xs ys : List UInt8} (h : Two W n g v u xs ys) (hb : Below W.heap.size W W') : Two W' n g v u xs ys :=
  h.kept (T := fun _ => False) (Kept.of_below hb (Nat.le_refl _) _) (fun h => h) (fun _ _ h => h) (fun _ _ h => h)
/-- .. and bytes of one's own. -/
structure Three (W : World) (n g : Nat) (v u o : Value) (xs ys bs : List UInt8) : Prop where
  two : Two W n g v u xs ys
  own : Row W n o bs
  ov : ∀ j, o.ownBlock = some j → v.ownBlock ≠ some j
  ou : ∀ j, o.ownBlock = some j → u.ownBlock ≠ some j

theorem Three.start {W W' : World} {n g : Nat} {v u o : Value} {xs ys bs : List UInt8} (h : Two W n g v u xs ys) (hn : n ≤ W.heap.size) (hr : Row W' W.heap.size o bs) (hb : Below W.heap.size W W') : Three W' n g v u o xs ys bs :=
  ⟨h.below hb, owns_base hr hn, fun j hj e => by have := (hr.lt j hj).1; have := (h.sink.row.lt j e).2; omega, fun j hj e => by have := (hr.lt j hj).1; have := (h.want.lt j e).2; omega⟩
theorem Three.below {W W' : World} {n g : Nat} {v u o : Value} {xs ys bs : List UInt8} (h : Three W n g v u o xs ys bs) (hb : Below W.heap.size W W') : Three W' n g v u o xs ys bs :=
  ⟨h.two.below hb, (Kept.of_below hb (Nat.le_refl _) (fun _ => False)).owns h.own (fun _ _ h => h), h.ov, h.ou⟩
theorem Three.g_own {W : World} {n g : Nat} {v u o : Value} {xs ys bs : List UInt8} (h : Three W n g v u o xs ys bs) : o.ownBlock ≠ some g := (h.two.sink.box.not_row (by decide) h.own).symm
theorem Two.g_want {W : World} {n g : Nat} {v u : Value} {xs ys : List UInt8} (h : Two W n g v u xs ys) : u.ownBlock ≠ some g := (h.sink.box.not_row (by decide) h.want).symm

/-- More is wanted. -/
theorem Three.wants {W W' : World} {n g : Nat} {v u u' o : Value} {xs ys zs bs : List UInt8} (h : Three W n g v u o xs ys bs) (hr : Row W' n u' (ys ++ zs)) (hg : W.grownBy W' u.ownBlock) (hw : u'.ownBlock = u.ownBlock ∨ u'.ownBlock = some W.heap.size) : Three W' n g v u' o xs (ys ++ zs) bs := by
  have k := Kept.of_grown hg
  have hn : ∀ j, u'.ownBlock = some j → (u.ownBlock = some j ∨ j = W.heap.size) := fun j hj => by
    rcases hw with e | e
    · exact .inl (e ▸ hj)
    · rw [e] at hj; cases hj; exact .inr rfl
  refine ⟨⟨h.two.sink.kept k h.two.g_want (fun j hj t => h.two.uv j t hj), hr, fun j hj e => ?_⟩, k.owns h.own (fun j hj t => h.ou j hj t), h.ov, fun j hj e => ?_⟩
  · rcases hn j hj with t | t
    · exact h.two.uv j t e
    · have := (h.two.sink.row.lt j e).2; omega
  · rcases hn j e with t | t
    · exact h.ou j hj t
    · have := (h.own.lt j hj).2; omega
/-- More is written. -/
theorem Three.writes {W W' : World} {n g : Nat} {v u o : Value} {xs xs' ys bs : List UInt8} (h : Three W n g v u o xs ys bs) (hs : SinkWrote W n g v xs' W') : ∃ v', Three W' n g v' u o xs' ys bs := by
  obtain ⟨v', h1, k, h3⟩ := hs
  have hn : ∀ j, v'.ownBlock = some j → (v.ownBlock = some j ∨ W.heap.size ≤ j) := fun j hj => by
    rcases h3 with e | e
    · exact .inl (e ▸ hj)
    · exact .inr (e j hj)
  refine ⟨v', ⟨h1, k.owns h.two.want (fun j hj t => ?_), fun j hj e => ?_⟩, k.owns h.own (fun j hj t => ?_), fun j hj e => ?_, h.ou⟩
  · rcases t with rfl | t
    · exact h.two.g_want hj
    · exact h.two.uv j hj t
  · rcases hn j e with t | t
    · exact h.two.uv j hj t
    · have := (h.two.want.lt j hj).2; omega
  · rcases t with rfl | t
    · exact h.g_own hj
    · exact h.ov j hj t
  · rcases hn j e with t | t
    · exact h.ov j hj t
    · have := (h.own.lt j hj).2; omega
theorem SinkWrote.below {W W' : World} {n g : Nat} {v : Value} {xs xs' : List UInt8} (hat : SinkAt W n g v xs) (hn : n ≤ W.heap.size) (hg : n ≤ g) (h : SinkWrote W n g v xs' W') : Below n W W' := by
  obtain ⟨v', h1, k, _⟩ := h
  refine k.below (fun j _ t => ?_) hn
  rcases t with t | t
  · omega
  · exact (hat.row.lt j t).1
theorem Three.turned {W W' : World} {n g : Nat} {v u o : Value} {xs ys bs : List UInt8} (h : Three W n g v u o xs ys bs) (k : Kept (fun j => o.ownBlock = some j) W W') : Two W' n g v u xs ys :=
  h.two.kept k h.g_own (fun j hj t => h.ov j t hj) (fun j hj t => h.ou j t hj)

end Go.Proofs.Ytbkbogblbniogaa
