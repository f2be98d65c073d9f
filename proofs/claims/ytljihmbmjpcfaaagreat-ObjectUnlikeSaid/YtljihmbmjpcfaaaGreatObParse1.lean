/- A list of one element, laid (any elements). A list of one element, laid. Parse of bytes that tell one entry, and end. -/
import Derived.Test.YtljihmbmjpcfaaaGreatObj
import Derived.Test.YtljihmbmjpcfaaaGreatLebSrc
import Derived.Test.YtljihmbmjpcfaaaGreatObRead2
import Derived.Test.YtljihmbmjpcfaaaGreatUtf8
namespace Go.Proofs.YtljihmbmjpcfaaaGreat
open Go.RowKit Go.Shelf Go.Great
set_option maxRecDepth 100000

theorem fill_one_e {α : Type} {E : Elt α} (x : α) (Z : Array Value) (hZ : Z.size = E.k) : Instr.fill (fun i => some (i * E.k, E.k)) Z [(0, E.val x)] = some (E.enc x).toArray := by
  have h := ofill_one (fun i => some (i * E.k, E.k)) Z.toList 0 (E.val x) (E.enc x) [] (0 * E.k) E.k rfl rfl (E.len x) (by rw [E.len x]; simp [hZ])
  rw [Array.toArray_toList] at h
  rw [h, ofill_none]
  congr 2
  unfold splice
  simp [E.len, hZ]
theorem wp_one_e {α : Type} {E : Elt α} {t ts : TypeId} (he : EltOf Tryz.prog E t ts) (hk : E.k ≤ 1000) {o : Oper} {a : Act} {w : World} {K : Act → World → Prop} {Q : Exit → Act → World → Prop} (y : Operand) (ho : o.op = .buildSlice ts 1 #[(0, y)]) {x : α} (hy : a.eval y = E.val x)
    (h : K (a.put o.dst (.slice (some ⟨w.heap.size, 0, none⟩) 1 1)) (w.alloc (.cells (E.enc x).toArray t))) : o.wp Tryz.prog a w K Q := by
  obtain ⟨i0, z, hi, hz0, hz1, hz2, hz3, hz4⟩ := he.info
  refine wp_buildSlice ts t 1 _ ho _ i0 z he.sl hi hz0 (by rw [hz1]; omega) (by rw [hz1]; have := E.pos; omega) ?_ h
  rw [hz1]
  simp only [List.map_toArray, List.map_cons, List.map_nil, hy]
  exact fill_one_e x _ (by simp)
theorem wpList_one_e {α : Type} {E : Elt α} {t ts : TypeId} (he : EltOf Tryz.prog E t ts) (hk : E.k ≤ 1000) {ops : Array Oper} {rest : List Oper} {o : Oper} {a : Act} {w : World} {Q : Exit → Act → World → Prop} (hg : o.guard = none) (y : Operand) (ho : o.op = .buildSlice ts 1 #[(0, y)]) {x : α} (hy : a.eval y = E.val x)
    (h : wpList Tryz.prog ops Q rest (a.put o.dst (.slice (some ⟨w.heap.size, 0, none⟩) 1 1)) (w.alloc (.cells (E.enc x).toArray t))) : wpList Tryz.prog ops Q (o :: rest) a w :=
  wpList_plain hg fun _ hK => wp_one_e he hk y ho hy (hK _ _ h)
theorem Es.one_e {α : Type} {E : Elt α} (w : World) (x : α) (t : TypeId) : Es E (w.alloc (.cells (E.enc x).toArray t)) (.slice (some ⟨w.heap.size, 0, none⟩) 1 1) [x] :=
  Es.built w [x] t (by simp [flatE])
theorem rowE_one {α : Type} {E : Elt α} {t : TypeId} (w : World) (x : α) : RowE E t (w.alloc (.cells (E.enc x).toArray t)) w.heap.size (.slice (some ⟨w.heap.size, 0, none⟩) 1 1) [x] := by
  refine ⟨by simp [flatE, E.len], .inr ⟨w.heap.size, 1, (E.enc x).toArray, rfl, Nat.le_refl _, heap_alloc_new w _, Nat.le_refl _, by decide, by simp [E.len], ?_⟩⟩
  rw [List.length_cons, List.length_nil, Nat.zero_add, Nat.one_mul, List.take_of_length_le (by simp [E.len])]
  simp [flatE]
end Go.Proofs.YtljihmbmjpcfaaaGreat
namespace Go.Proofs.YtljihmbmjpcfaaaGreat
open Go.RowKit Go.Shelf Go.Great
set_option maxRecDepth 100000

/-- A link. -/
def mkLk (k : Int) (id : List UInt8) : Lk := if h : id.length = 32 then ⟨k, id, h⟩ else ⟨k, zeroID, rfl⟩
theorem mkLk_of {k : Int} {id : List UInt8} (h : id.length = 32) : mkLk k id = ⟨k, id, h⟩ := by unfold mkLk; rw [dif_pos h]
abbrev lkE (x : En) : Lk := ⟨x.kd, x.id, x.h⟩
/-- What an object refers to. -/
def linksK (p : Pl) : List Lk :=
  if p.kd = 2 then p.es.map lkE
  else if p.kd = 3 then mkLk 2 p.tree :: p.ps.map (mkLk 3)
  else if p.kd = 4 then [p.tg]
  else []
abbrev RowL (W : World) (n : Nat) (v : Value) (l : List Lk) : Prop := RowE eLk 28 W n v l
theorem below_row {α : Type} {E : Elt α} {t : TypeId} {w w' w'' : World} {v : Value} {l : List α} (hB : Below w.heap.size w w') (hrow : RowE E t w' w.heap.size v l) (hg : w'.grownBy w'' v.ownBlock) : Below w.heap.size w w'' :=
  hB.trans ((Kept.of_grown hg).below (fun j _ e => (World.ownsRow.lt hrow j e).1) hB.size)
end Go.Proofs.YtljihmbmjpcfaaaGreat
namespace Go.Proofs.YtljihmbmjpcfaaaGreat
open Go.RowKit Go.Shelf Go.Great
set_option maxRecDepth 100000

theorem rEntry_enters (args : Array Value) (w : World) : (callFunc 224 args).run Tryz.prog w = .ok (.enter 224 args) w := enters_of Tryz.func224 (by kernel_rfl) rfl args w
set_option maxHeartbeats 1000000 in
theorem rSevE_one (w : World) (gr gs : Nat) (v : Value) (hat : RdAt w gr gs v [1] false) :
    Calls Tryz.prog 223 #[.pointer (some ⟨gr, 0, none⟩), .int .u64 32, .func (.func 224) #[.pointer (some ⟨gr, 0, none⟩)] #[]] w fun e W' => ∃ A n c, e = .returned (.slice A n c) ∧ RdOut w gr gs v [] true W' := by
  have hen := fun args w => rEntry_enters args w
  go_enter Tryz.func223, Tryz.ntmps223
  go_wp2_with fail
  refine (rNumber_any w gr gs v [1] false hat (by simp) 32).mono ?_
  rintro e w2 ⟨rfl, hout⟩
  rw [show rdNum 32 [1] false = (1, [], false) by decide +kernel] at hout ⊢
  dsimp only at hout ⊢
  obtain ⟨v2, hat2, hk2, hv2⟩ := hout
  have HK2 := Lib.hid hk2
  have HV2 := Lib.hid hv2
  clear hk2 hv2 hat
  go_wp2_with fail
  go_loopw [7, 11] (fun s i wr => (i = .int .u64 0 ∧ s = .slice none 0 0 ∧ wr = w2) ∨ (i = .int .u64 1 ∧ (∃ A n c, s = .slice A n c) ∧ RdOut w gr gs v [] true wr)) (fun _ i _ => 1 - (RowKit.intOf i).toNat)
  case atStart => exact .inl ⟨rfl, rfl, rfl⟩
  case round =>
    rcases hrel with ⟨rfl, rfl, rfl⟩ | ⟨rfl, ⟨A, n, c, rfl⟩, hO⟩
    · go_wp2_with fail
      refine (rEntry_none wr gr gs v2 hat2).mono ?_
      rintro e w3 ⟨rfl, hout⟩
      have O3 := Lib.hid (RdOut.then HK2.out HV2.out hout)
      clear hout hat2 HK2 HV2
      go_wp2_with (first
        | (refine wpList_one_e (E := eEn) elEn (by decide) rfl (.tmp 15) rfl (x := zeroEn) rfl ?_; have hone := Es.one_e (E := eEn) w3 zeroEn 70; have hB4 := (Below.refl w3.heap.size w3).alloc (Nat.le_refl _) (.cells (eEn.enc zeroEn).toArray 70); generalize hg4 : w3.alloc (.cells (eEn.enc zeroEn).toArray 70) = w4 at hone hB4 ⊢; clear hg4)
        | (at_builtin; refine wpList_append_es elEn rfl (.tmp 13) (.tmp 16) rfl w4.heap.size _ [] rfl (RowE.nil _ _) _ [zeroEn] rfl hone (by simp) (Nat.le_refl _) ?_; intro v5 w5 hown5 hg5 hv5; obtain ⟨A5, c5, rfl, _⟩ := hown5.slice))
      have hB5 : Below w3.heap.size w3 w5 := hB4.trans ((Kept.of_grown hg5).below (B := w3.heap.size) (fun j _ e => by cases e) hB4.size)
      have O5 := O3.out.behind hB5
      go_roundw
      case rel => exact O5
      case measure => simp [RowKit.intOf]
    · have O := Lib.hid hO
      clear hO
      go_wp2_with fail
      go_ret
      exact ⟨_, _, _, rfl, O.out⟩
set_option maxHeartbeats 1000000 in
theorem treeRead_one (w : World) (gr gs gb : Nat) (v x : Value) (hat : RdAt w gr gs v [1] false) (hb : Boxed w gb 165 x) (h1 : gb ≠ gr) (h2 : gb ≠ gs) (h3 : ∀ j, v.ownBlock = some j → j ≠ gb) :
    Calls Tryz.prog 220 #[.pointer (some ⟨gb, 0, none⟩), .pointer (some ⟨gr, 0, none⟩)] w fun e W' => e = .returned (.tuple #[]) ∧ (∃ v', RdAt W' gr gs v' [] true) ∧ Kept (fun j => j = gs ∨ j = gr ∨ j = gb) w W' := by
  have hmf : ∀ (fn : Fn) (first cap : Array Value) (w : World), (Instr.makeFunc fn first cap).run Tryz.prog w = .ok (.func fn first cap) w := fun _ _ _ _ => rfl
  go_enter Tryz.func220, Tryz.ntmps220
  go_wp2_with fail
  refine (rSevE_one w gr gs v hat).mono ?_
  rintro e w2 ⟨A, n, c, rfl, v2, hat2, hk2, hv2⟩
  have hb2 := hk2.boxed hb (by rintro (h | h); exact h2 h; exact h1 h)
  have hc2 := hb2.cell
  have hf2 := hb2.frozen
  have HK := Lib.hid hk2
  have HV := Lib.hid hv2
  clear hk2 hv2
  go_wp2_with fail
  go_end0
  have k3 : Kept (fun j => j = gb) w2 (w2.setCell ⟨gb, 0, none⟩ (.slice A n c)) := (Kept.refl (fun j => j = gb) w2).setCell (p := ⟨gb, 0, none⟩) (fun _ => rfl) _
  refine ⟨rfl, ⟨v2, hat2.src.kept k3 (fun e => h2 e.symm) (fun j hj e => h3 j (HV.out ▸ hj) e), (k3.block gr hat2.lt (fun e => h1 e.symm)).trans hat2.rd, hat2.ne, hat2.row⟩, ?_⟩
  exact (HK.out.mono (T' := fun j => j = gs ∨ j = gr ∨ j = gb) (fun j _ h => by rcases h with h | h; exact .inl h; exact .inr (.inl h))).trans k3 (fun j _ e => .inr (.inr e))
theorem build_kd (w : World) (k : Int) : (Instr.build 30 #[(0, .int .i64 k)]).run Tryz.prog w = .ok (ObV { zeroOb with kd := k }) w := by
  obtain ⟨fs, hu, hp⟩ := ob_places w
  refine run_build_struct hu w (zeroOb_run w) hp ?_
  show Instr.fill _ (encO zeroOb).toArray [(0, .int .i64 k)] = _
  rw [ofill_one _ _ _ _ [.int .i64 k] _ 0 1 rfl rfl rfl (by rw [encO_length]; simp), ofill_none, encO_set_kd]
theorem build_ob0 (w : World) : (Instr.build 30 #[]).run Tryz.prog w = .ok (ObV zeroOb) w := by
  obtain ⟨fs, hu, hp⟩ := ob_places w
  refine run_build_struct hu w (zeroOb_run w) hp ?_
  show Instr.fill _ (encO zeroOb).toArray [] = _
  rw [ofill_none]
theorem results_e2 {α : Type} {E : Elt α} {t : TypeId} {d : TypeDesc} (hu : Tryz.prog.underlying t = some d) (hd : d.isRow = true) (hi : (Tryz.prog.info? t).map (·.size) = some E.k) {fn : Func} {s u : Tmp} (h : fn.results = #[.cell s t, .tmp u]) (tmps : Array Value) {w : World} {g : Nat} {x : α} (ht : tmps.getD s undef = .pointer (some ⟨g, 0, none⟩)) (hb : BoxE E t w g x) :
    (results fn tmps).run Tryz.prog w = .ok (.tuple #[E.val x, tmps.getD u undef]) w := by
  have hl := run_loadVar_mid (P := Tryz.prog) w g 0 t (E.enc x) d hb.at hu hd (by rw [hi, E.len x])
  rw [Array.getD_eq_getD_getElem?] at ht
  simp [results, h, ht, asAddr, hl]
end Go.Proofs.YtljihmbmjpcfaaaGreat
