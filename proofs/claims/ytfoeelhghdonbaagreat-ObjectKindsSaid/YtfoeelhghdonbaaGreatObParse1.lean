/- Parse of bytes that tell one entry, and end. -/
import Derived.Test.YtfoeelhghdonbaaGreatObRead2
import Derived.Test.YtfoeelhghdonbaaGreatObGreat
import Derived.Test.YtfoeelhghdonbaaGreatObjKind
namespace Go.Proofs.YtfoeelhghdonbaaGreat
open Go.RowKit Go.Shelf Go.Great
set_option maxRecDepth 100000

theorem rEntry_enters (args : Array Value) (w : World) : (callFunc 145 args).run Tryz.prog w = .ok (.enter 145 args) w := enters_of Tryz.func145 (by kernel_rfl) rfl args w
set_option maxHeartbeats 1000000 in
theorem rSevE_one (w : World) (gr gs : Nat) (v : Value) (hat : RdAt w gr gs v [1] false) :
    Calls Tryz.prog 144 #[.pointer (some ⟨gr, 0, none⟩), .int .u64 32, .func (.func 145) #[.pointer (some ⟨gr, 0, none⟩)] #[]] w fun e W' => ∃ A n c, e = .returned (.slice A n c) ∧ RdOut w gr gs v [] true W' := by
  have hen := fun args w => rEntry_enters args w
  go_enter Tryz.func144, Tryz.ntmps144
  go_wp2_with fail
  refine (rNumber_any w gr gs v [1] false hat (by simp) 32).mono ?_
  rintro e w2 ⟨rfl, hout⟩
  rw [show rdNum 32 [1] false = (1, [], false) by decide +kernel] at hout ⊢
  dsimp only at hout ⊢
  obtain ⟨v2, hat2, hk2, hv2⟩ := hout
  have HK2 := Lib.hid hk2
  have HV2 := Lib.hid hv2
  clear hk2 hv2 hat
  go_wp2_with fail
  go_loopw [7, 11] (fun s i wr => (i = .int .u64 0 ∧ s = .slice none 0 0 ∧ wr = w2) ∨ (i = .int .u64 1 ∧ (∃ A n c, s = .slice A n c) ∧ RdOut w gr gs v [] true wr)) (fun _ i _ => 1 - (RowKit.intOf i).toNat)
  case atStart => exact .inl ⟨rfl, rfl, rfl⟩
  case round =>
    rcases hrel with ⟨rfl, rfl, rfl⟩ | ⟨rfl, ⟨A, n, c, rfl⟩, hO⟩
    · go_wp2_with fail
      refine (rEntry_none wr gr gs v2 hat2).mono ?_
      rintro e w3 ⟨rfl, hout⟩
      have O3 := Lib.hid (RdOut.then HK2.out HV2.out hout)
      clear hout hat2 HK2 HV2
      go_wp2_with (first
        | (refine wpList_one_e (E := eEn) elEn (by decide) rfl (.tmp 15) rfl (x := zeroEn) rfl ?_; have hone := Es.one_e (E := eEn) w3 zeroEn 57; have hB4 := (Below.refl w3.heap.size w3).alloc (Nat.le_refl _) (.cells (eEn.enc zeroEn).toArray 57); generalize hg4 : w3.alloc (.cells (eEn.enc zeroEn).toArray 57) = w4 at hone hB4 ⊢; clear hg4)
        | (at_builtin; refine wpList_append_es elEn rfl (.tmp 13) (.tmp 16) rfl w4.heap.size _ [] rfl (RowE.nil _ _) _ [zeroEn] rfl hone (by simp) (Nat.le_refl _) ?_; intro v5 w5 hown5 hg5 hv5; obtain ⟨A5, c5, rfl, _⟩ := hown5.slice))
      have hB5 : Below w3.heap.size w3 w5 := hB4.trans ((Kept.of_grown hg5).below (B := w3.heap.size) (fun j _ e => by cases e) hB4.size)
      have O5 := O3.out.behind hB5
      go_roundw
      case rel => exact O5
      case measure => simp [RowKit.intOf]
    · have O := Lib.hid hO
      clear hO
      go_wp2_with fail
      go_ret
      exact ⟨_, _, _, rfl, O.out⟩
set_option maxHeartbeats 1000000 in
theorem treeRead_one (w : World) (gr gs gb : Nat) (v x : Value) (hat : RdAt w gr gs v [1] false) (hb : Boxed w gb 131 x) (h1 : gb ≠ gr) (h2 : gb ≠ gs) (h3 : ∀ j, v.ownBlock = some j → j ≠ gb) :
    Calls Tryz.prog 141 #[.pointer (some ⟨gb, 0, none⟩), .pointer (some ⟨gr, 0, none⟩)] w fun e W' => e = .returned (.tuple #[]) ∧ (∃ v', RdAt W' gr gs v' [] true) ∧ Kept (fun j => j = gs ∨ j = gr ∨ j = gb) w W' := by
  have hmf : ∀ (fn : Fn) (first cap : Array Value) (w : World), (Instr.makeFunc fn first cap).run Tryz.prog w = .ok (.func fn first cap) w := fun _ _ _ _ => rfl
  go_enter Tryz.func141, Tryz.ntmps141
  go_wp2_with fail
  refine (rSevE_one w gr gs v hat).mono ?_
  rintro e w2 ⟨A, n, c, rfl, v2, hat2, hk2, hv2⟩
  have hb2 := hk2.boxed hb (by rintro (h | h); exact h2 h; exact h1 h)
  have hc2 := hb2.cell
  have hf2 := hb2.frozen
  have HK := Lib.hid hk2
  have HV := Lib.hid hv2
  clear hk2 hv2
  go_wp2_with fail
  go_end0
  have k3 : Kept (fun j => j = gb) w2 (w2.setCell ⟨gb, 0, none⟩ (.slice A n c)) := (Kept.refl (fun j => j = gb) w2).setCell (p := ⟨gb, 0, none⟩) (fun _ => rfl) _
  refine ⟨rfl, ⟨v2, hat2.src.kept k3 (fun e => h2 e.symm) (fun j hj e => h3 j (HV.out ▸ hj) e), (k3.block gr hat2.lt (fun e => h1 e.symm)).trans hat2.rd, hat2.ne, hat2.row⟩, ?_⟩
  exact (HK.out.mono (T' := fun j => j = gs ∨ j = gr ∨ j = gb) (fun j _ h => by rcases h with h | h; exact .inl h; exact .inr (.inl h))).trans k3 (fun j _ e => .inr (.inr e))
theorem build_kd (w : World) (k : Int) : (Instr.build 30 #[(0, .int .i64 k)]).run Tryz.prog w = .ok (ObV { zeroOb with kd := k }) w := by
  obtain ⟨fs, hu, hp⟩ := ob_places w
  refine run_build_struct hu w (zeroOb_run w) hp ?_
  show Instr.fill _ (encO zeroOb).toArray [(0, .int .i64 k)] = _
  rw [ofill_one _ _ _ _ [.int .i64 k] _ 0 1 rfl rfl rfl (by rw [encO_length]; simp), ofill_none, encO_set_kd]
theorem build_ob0 (w : World) : (Instr.build 30 #[]).run Tryz.prog w = .ok (ObV zeroOb) w := by
  obtain ⟨fs, hu, hp⟩ := ob_places w
  refine run_build_struct hu w (zeroOb_run w) hp ?_
  show Instr.fill _ (encO zeroOb).toArray [] = _
  rw [ofill_none]
theorem results_e2 {α : Type} {E : Elt α} {t : TypeId} {d : TypeDesc} (hu : Tryz.prog.underlying t = some d) (hd : d.isRow = true) (hi : (Tryz.prog.info? t).map (·.size) = some E.k) {fn : Func} {s u : Tmp} (h : fn.results = #[.cell s t, .tmp u]) (tmps : Array Value) {w : World} {g : Nat} {x : α} (ht : tmps.getD s undef = .pointer (some ⟨g, 0, none⟩)) (hb : BoxE E t w g x) :
    (results fn tmps).run Tryz.prog w = .ok (.tuple #[E.val x, tmps.getD u undef]) w := by
  have hl := run_loadVar_mid (P := Tryz.prog) w g 0 t (E.enc x) d hb.at hu hd (by rw [hi, E.len x])
  rw [Array.getD_eq_getD_getElem?] at ht
  simp [results, h, ht, asAddr, hl]
end Go.Proofs.YtfoeelhghdonbaaGreat
