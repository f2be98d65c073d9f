/- The reference's Less. The reference's Set. -/
import Derived.Test.YtljihmbmjpcfaaaGreatIdRows
import Derived.Test.YtljihmbmjpcfaaaGreatHashRefText
namespace Go.Proofs.YtljihmbmjpcfaaaGreat
open Go.RowKit
set_option maxRecDepth 100000

/-- Those that the other list has not. -/
def lessI (l m : List (List UInt8)) : List (List UInt8) := l.filter fun x => !decide (x ∈ m)
theorem lessI_succ {l m : List (List UInt8)} {k : Nat} {x : List UInt8} (hx : l[k]? = some x) : lessI (l.take (k + 1)) m = lessI (l.take k) m ++ (if x ∈ m then [] else [x]) := by
  unfold lessI
  rw [List.take_add_one, hx, List.filter_append]
  by_cases h : x ∈ m <;> simp [h]
theorem lessI_le (l m : List (List UInt8)) : (lessI l m).length ≤ l.length := List.length_filter_le _ _

end Go.Proofs.YtljihmbmjpcfaaaGreat
namespace Go.Proofs.YtljihmbmjpcfaaaGreat
open Go.RowKit
set_option maxRecDepth 100000

/-- Put in at its place. -/
def insI (x : List UInt8) (out : List (List UInt8)) : List (List UInt8) := out.takeWhile (fun y => decide (cmpB y x < 0)) ++ [x] ++ out.dropWhile (fun y => decide (cmpB y x < 0))
/-- The set, as one after the other comes. -/
def setI (l : List (List UInt8)) : List (List UInt8) := l.foldl (fun out x => if x ∈ out then out else insI x out) []
theorem setI_succ {l : List (List UInt8)} {k : Nat} {x : List UInt8} (hx : l[k]? = some x) : setI (l.take (k + 1)) = if x ∈ setI (l.take k) then setI (l.take k) else insI x (setI (l.take k)) := by
  unfold setI
  rw [List.take_add_one, hx, List.foldl_append]
  rfl
theorem insI_length (x : List UInt8) (out : List (List UInt8)) : (insI x out).length = out.length + 1 := by
  have h := congrArg List.length (List.takeWhile_append_dropWhile (p := fun y => decide (cmpB y x < 0)) (l := out))
  rw [List.length_append] at h
  simp only [insI, List.length_append, List.length_cons, List.length_nil]
  omega
theorem setI_length : ∀ (l : List (List UInt8)) (k : Nat), k ≤ l.length → (setI (l.take k)).length ≤ k := by
  intro l k
  induction k with
  | zero => intro _; simp [setI]
  | succ k ih =>
    intro h
    have h1 := ih (by omega)
    rw [setI_succ (List.getElem?_eq_getElem (by omega : k < l.length))]
    split
    · omega
    · rw [insI_length]; omega
/-- Where the first one stands that is not ahead. -/
theorem takeWhile_at {p : List UInt8 → Bool} {out : List (List UInt8)} {n : Nat} (h1 : ∀ i y, i < n → out[i]? = some y → p y = true) (h2 : n = out.length ∨ ∃ y, out[n]? = some y ∧ p y = false) (hn : n ≤ out.length) : out.takeWhile p = out.take n ∧ out.dropWhile p = out.drop n := by
  induction out generalizing n with
  | nil => simp at hn; subst hn; exact ⟨rfl, rfl⟩
  | cons y out ih =>
    cases n with
    | zero =>
      rcases h2 with h2 | ⟨z, hz, hp⟩
      · simp at h2
      · simp at hz
        subst hz
        simp [List.takeWhile, List.dropWhile, hp]
    | succ n =>
      have hy := h1 0 y (by omega) rfl
      obtain ⟨e1, e2⟩ := ih (n := n) (fun i z hi hz => h1 (i + 1) z (by omega) (by simpa using hz)) (by rcases h2 with h2 | ⟨z, hz, hp⟩; exact .inl (by simpa using h2); exact .inr ⟨z, by simpa using hz, hp⟩) (by simpa using hn)
      simp [List.takeWhile, List.dropWhile, hy, e1, e2]

set_option maxRecDepth 100000 in
set_option maxHeartbeats 2000000 in
theorem rSet_form (w : World) (A : Option Addr) (c : Nat) (l : List (List UInt8)) (hl : Is w (.slice A l.length c) l) (hll : l.length ≤ 1000) :
    Calls Tryz.prog 69 #[.slice A l.length c] w fun e W' => ∃ v', e = .returned v' ∧ RowI W' w.heap.size v' (setI l) ∧ Below w.heap.size w W' := by
  go_enter Tryz.func69, Tryz.ntmps69
  go_wp2_with fail
  go_loopw [3, 4] (fun v i wr => ∃ k : Nat, k ≤ l.length ∧ i = .int .i64 k ∧ RowI wr w.heap.size v (setI (l.take k)) ∧ Below w.heap.size w wr) (fun _ i _ => l.length - (intOf i).toNat)
  case atStart => exact ⟨0, by omega, rfl, RowI.nil _ _, Below.refl _ _⟩
  case round =>
    obtain ⟨k, hk, rfl, hrow, hB⟩ := hrel
    by_cases hlt : k < l.length
    case neg =>
      obtain rfl : k = l.length := by omega
      rw [List.take_length] at hrow
      obtain ⟨Ar, cr, rfl, hcr⟩ := hrow.slice
      go_wp2
      go_ret
      exact ⟨_, rfl, hrow, hB⟩
    case pos =>
      obtain ⟨x, hxk⟩ : ∃ x, l[k]? = some x := ⟨_, List.getElem?_eq_getElem hlt⟩
      obtain ⟨hx32, b, off, rfl, hat⟩ := hl.at hxk
      have HS := Lib.hid (setI_succ hxk)
      have hat1 := hat.below hB
      have hsl := setI_length l k hk
      generalize setI (l.take k) = out at *
      obtain ⟨Ar, cr, rfl, hcr⟩ := hrow.slice
      have HROW := Lib.hid hrow
      clear hxk hrow
      go_wp2_with (refine wpList_load_mid rfl 25 (.tmp 17) rfl b (off + k * 32) rfl (x.map B8) _ hat1 Tryz.underlying25 rfl (sizeID hx32) ?_)
      refine (rHas_any wr _ out HROW.out.is (by omega) x hx32).mono ?_
      rintro e w1 ⟨rfl, h1⟩
      have hB1 := hB.trans (h1.mono hB.size)
      have hrow1 := HROW.out.below h1
      by_cases hxm : x ∈ out
      case pos =>
        rw [decide_eq_true hxm]
        have HS2 := Lib.hid (show setI (l.take (k + 1)) = out by rw [HS.out, if_pos hxm])
        clear HS hxm
        go_wp2_with fail
        go_roundw
        case rel => exact ⟨k + 1, by omega, by go_num, by rw [HS2.out]; exact hrow1, hB1⟩
        case measure => simp [intOf]; omega
      case neg =>
        rw [decide_eq_false hxm]
        have HS2 := Lib.hid (show setI (l.take (k + 1)) = insI x out by rw [HS.out, if_neg hxm])
        have HROW1 := Lib.hid hrow1
        clear HS hxm HROW hrow1 hat1
        go_wp2_with fail
        go_loopw [6] (fun i wr2 => ∃ n : Nat, n ≤ out.length ∧ i = .int .i64 n ∧ (∀ i y, i < n → out[i]? = some y → cmpB y x < 0) ∧ Below w1.heap.size w1 wr2) (fun i _ => out.length - (intOf i).toNat)
        case atStart => exact ⟨0, by omega, rfl, fun i y hi => by omega, Below.refl _ _⟩
        case round =>
          obtain ⟨n, hn, rfl, hall, hBn⟩ := hrel
          have HALL := Lib.hid hall
          clear hall
          have hBw := hB1.trans (hBn.mono hB1.size)
          have hrowN := HROW1.out.below hBn
          by_cases hno : n < out.length
          case pos =>
            obtain ⟨y, hyn⟩ : ∃ y, out[n]? = some y := ⟨_, List.getElem?_eq_getElem hno⟩
            obtain ⟨hy32, b', off', hA', haty⟩ := hrowN.is.at hyn
            subst hA'
            have hS : IdAt wr.drew b' (off' + n * 32) y ∧ IdAt wr.drew b (off + k * 32) x ∧ Below w1.heap.size w1 wr.drew := ⟨haty.below (Below.refl _ _).drew, (hat.below hBw).below (Below.refl _ _).drew, hBn.drew⟩
            have HYN := Lib.hid hyn
            clear hyn
            go_wp2_with fail
            refine wp_held (fun W1 => IdAt W1 b' (off' + n * 32) y ∧ IdAt W1 b (off + k * 32) x ∧ Below w1.heap.size w1 W1) (by kernel_rfl) ?_
            refine wpAnyH_next (i := 0) (v := .int .i64 (n : Int)) rfl (by kernel_rfl) (by kernel_rfl) (by kernel_rfl) (fun _ _ _ h => h) (by kernel_rfl) (fun W1 hW1 => by go_simp) hS (fun a' ha' => ?_)
            simp only [Act.put, List.getElem_toArray, List.getElem_cons_zero, List.setIfInBounds_toArray, List.set_cons_succ, List.set_cons_zero] at ha'
            subst ha'
            refine wpAnyH_next (i := 1) (v := .slice (some ⟨b', off', none⟩) out.length cr) rfl (by kernel_rfl) (by kernel_rfl) (by kernel_rfl) (fun _ _ _ h => h) (by kernel_rfl) (fun W1 hW1 => by go_simp) hS (fun a' ha' => ?_)
            simp only [Act.put, List.getElem_toArray, List.getElem_cons_succ, List.getElem_cons_zero, List.setIfInBounds_toArray, List.set_cons_succ, List.set_cons_zero] at ha'
            subst ha'
            refine wpAnyH_next (i := 2) (v := .int .i64 (out.length : Int)) rfl (by kernel_rfl) (by kernel_rfl) (by kernel_rfl) (fun _ _ _ h => h) (by kernel_rfl) (fun W1 hW1 => by go_simp) hS (fun a' ha' => ?_)
            simp only [Act.put, List.getElem_toArray, List.getElem_cons_succ, List.getElem_cons_zero, List.setIfInBounds_toArray, List.set_cons_succ, List.set_cons_zero] at ha'
            subst ha'
            refine wpAnyH_next (i := 3) (v := .bool true) rfl (by kernel_rfl) (by kernel_rfl) (by kernel_rfl) (fun _ _ _ h => h) (by kernel_rfl) (fun W1 hW1 => by go_simp) hS (fun a' ha' => ?_)
            simp only [Act.put, List.getElem_toArray, List.getElem_cons_succ, List.getElem_cons_zero, List.setIfInBounds_toArray, List.set_cons_succ, List.set_cons_zero] at ha'
            subst ha'
            refine wpAnyH_next (i := 4) (v := .bool true) rfl (by kernel_rfl) (by kernel_rfl) (by kernel_rfl) (fun _ _ _ h => h) (by kernel_rfl) (fun W1 hW1 => by go_simp) hS (fun a' ha' => ?_)
            simp only [Act.put, List.getElem_toArray, List.getElem_cons_succ, List.getElem_cons_zero, List.setIfInBounds_toArray, List.set_cons_succ, List.set_cons_zero] at ha'
            subst ha'
            refine wpAnyH_next (i := 5) (v := .slice (some ⟨b', off', none⟩) out.length cr) rfl (by kernel_rfl) (by kernel_rfl) (by kernel_rfl) (fun _ _ _ h => h) (by kernel_rfl) (fun W1 hW1 => by go_simp) hS (fun a' ha' => ?_)
            simp only [Act.put, List.getElem_toArray, List.getElem_cons_succ, List.getElem_cons_zero, List.setIfInBounds_toArray, List.set_cons_succ, List.set_cons_zero] at ha'
            subst ha'
            refine wpAnyH_next (i := 6) (v := .int .i64 (n : Int)) rfl (by kernel_rfl) (by kernel_rfl) (by kernel_rfl) (fun _ _ _ h => h) (by kernel_rfl) (fun W1 hW1 => by go_simp) hS (fun a' ha' => ?_)
            simp only [Act.put, List.getElem_toArray, List.getElem_cons_succ, List.getElem_cons_zero, List.setIfInBounds_toArray, List.set_cons_succ, List.set_cons_zero] at ha'
            subst ha'
            refine wpAnyH_next (i := 7) (v := .pointer (some ⟨b', off' + n * 32, none⟩)) rfl (by kernel_rfl) (by kernel_rfl) (by kernel_rfl) (fun _ _ _ h => h) (by kernel_rfl) (fun W1 hW1 => by go_simp) hS (fun a' ha' => ?_)
            simp only [Act.put, List.getElem_toArray, List.getElem_cons_succ, List.getElem_cons_zero, List.setIfInBounds_toArray, List.set_cons_succ, List.set_cons_zero] at ha'
            subst ha'
            refine wpAnyH_next (i := 8) (v := IdV y) rfl (by kernel_rfl) (by kernel_rfl) (by kernel_rfl) (fun _ _ _ h => h) (by kernel_rfl) (fun W1 hW1 => by exact exec_load_id rfl rfl hy32 hW1.1) hS (fun a' ha' => ?_)
            simp only [Act.put, List.getElem_toArray, List.getElem_cons_succ, List.getElem_cons_zero, List.setIfInBounds_toArray, List.set_cons_succ, List.set_cons_zero] at ha'
            subst ha'
            refine wpAnyH_next (i := 9) (v := .slice (some ⟨b, off, none⟩) l.length c) rfl (by kernel_rfl) (by kernel_rfl) (by kernel_rfl) (fun _ _ _ h => h) (by kernel_rfl) (fun W1 hW1 => by go_simp) hS (fun a' ha' => ?_)
            simp only [Act.put, List.getElem_toArray, List.getElem_cons_succ, List.getElem_cons_zero, List.setIfInBounds_toArray, List.set_cons_succ, List.set_cons_zero] at ha'
            subst ha'
            refine wpAnyH_next (i := 10) (v := .int .i64 (k : Int)) rfl (by kernel_rfl) (by kernel_rfl) (by kernel_rfl) (fun _ _ _ h => h) (by kernel_rfl) (fun W1 hW1 => by go_simp) hS (fun a' ha' => ?_)
            simp only [Act.put, List.getElem_toArray, List.getElem_cons_succ, List.getElem_cons_zero, List.setIfInBounds_toArray, List.set_cons_succ, List.set_cons_zero] at ha'
            subst ha'
            refine wpAnyH_next (i := 11) (v := .pointer (some ⟨b, off + k * 32, none⟩)) rfl (by kernel_rfl) (by kernel_rfl) (by kernel_rfl) (fun _ _ _ h => h) (by kernel_rfl) (fun W1 hW1 => by go_simp) hS (fun a' ha' => ?_)
            simp only [Act.put, List.getElem_toArray, List.getElem_cons_succ, List.getElem_cons_zero, List.setIfInBounds_toArray, List.set_cons_succ, List.set_cons_zero] at ha'
            subst ha'
            refine wpAnyH_next (i := 12) (v := IdV x) rfl (by kernel_rfl) (by kernel_rfl) (by kernel_rfl) (fun _ _ _ h => h) (by kernel_rfl) (fun W1 hW1 => by exact exec_load_id rfl rfl hx32 hW1.2.1) hS (fun a' ha' => ?_)
            simp only [Act.put, List.getElem_toArray, List.getElem_cons_succ, List.getElem_cons_zero, List.setIfInBounds_toArray, List.set_cons_succ, List.set_cons_zero] at ha'
            subst ha'
            refine wpAnyH_want (i := 13) (by kernel_rfl) rfl (by kernel_rfl) (fun K hK => ?_)
            unfold Oper.wp
            go_simp
            refine (rCompare_any _ y x hy32 hx32).mono ?_
            rintro e w3 ⟨rfl, h3⟩
            replace hS : IdAt w3 b' (off' + n * 32) y ∧ IdAt w3 b (off + k * 32) x ∧ Below w1.heap.size w1 w3 := ⟨hS.1.below h3, hS.2.1.below h3, hS.2.2.trans (h3.mono hS.2.2.size)⟩
            refine hK _ _ hS ?_
            clear hK K h3
            refine wpAnyH_next (i := 14) (v := .bool (decide (cmpB y x < 0))) rfl (by kernel_rfl) (by kernel_rfl) (by kernel_rfl) (fun _ _ _ h => h) (by kernel_rfl) (fun W1 hW1 => by go_simp) hS (fun a' ha' => ?_)
            simp only [Act.put, List.getElem_toArray, List.getElem_cons_succ, List.getElem_cons_zero, List.setIfInBounds_toArray, List.set_cons_succ, List.set_cons_zero] at ha'
            subst ha'
            refine wpAnyH_next (i := 15) (v := .bool (decide (cmpB y x < 0))) rfl (by kernel_rfl) (by kernel_rfl) (by kernel_rfl) (fun _ _ _ h => h) (by kernel_rfl) (fun W1 hW1 => by go_simp) hS (fun a' ha' => ?_)
            simp only [Act.put, List.getElem_toArray, List.getElem_cons_succ, List.getElem_cons_zero, List.setIfInBounds_toArray, List.set_cons_succ, List.set_cons_zero] at ha'
            subst ha'
            refine wpAnyH_fin (by kernel_rfl) ?_ _
            by_cases hcm : cmpB y x < 0
            · rw [decide_eq_true hcm]
              have HA2 := Lib.hid (show ∀ i z, i < n + 1 → out[i]? = some z → cmpB z x < 0 by
                intro i z hi hz
                by_cases hin : i = n
                · subst hin
                  rw [HYN.out] at hz
                  cases hz
                  exact hcm
                · exact HALL.out i z (by omega) hz)
              clear hcm
              go_wp2_with fail
              go_roundw
              case rel => exact ⟨n + 1, by omega, by go_num, HA2.out, hS.2.2⟩
              case measure => simp [intOf]; omega
            · rw [decide_eq_false hcm]
              obtain ⟨ht1, ht2⟩ := takeWhile_at (p := fun y => decide (cmpB y x < 0)) (out := out) (n := n) (fun i z hi hz => decide_eq_true (HALL.out i z hi hz)) (.inr ⟨y, HYN.out, decide_eq_false hcm⟩) (by omega)
              have HI := Lib.hid (show insI x out = out.take n ++ [x] ++ out.drop n by unfold insI; rw [ht1, ht2])
              have hBo : Below w1.heap.size w1 w3 := hS.2.2
              have hrowO := HROW1.out.below hBo
              have hBwo := hB1.trans (hBo.mono hB1.size)
              have htk := hrowO.is.take (k := n) (by omega)
              have hdr := hrowO.is.drop (k := n) (by omega)
              have hatO := hat.below hBwo
              have hncr : n ≤ cr := by omega
              have hlt1 : (out.take n).length ≤ 1000 := by simp; omega
              clear ht1 ht2 HALL hS
              go_wp2_with fail
              have hS : IdAt w3.drew b (off + k * 32) x ∧ Below w3.heap.size w3 w3.drew := ⟨hatO.below (Below.refl _ _).drew, (Below.refl _ _).drew⟩
              refine wp_held (fun W1 => IdAt W1 b (off + k * 32) x ∧ Below w3.heap.size w3 W1) (by kernel_rfl) ?_
              refine wpAnyH_next (i := 0) (v := .slice none 0 0) rfl (by kernel_rfl) (by kernel_rfl) (by kernel_rfl) (fun _ _ _ h => h) (by kernel_rfl) (fun W1 hW1 => by go_simp) hS (fun a' ha' => ?_)
              simp only [Act.put, List.getElem_toArray, List.getElem_cons_zero, List.setIfInBounds_toArray, List.set_cons_succ, List.set_cons_zero] at ha'
              subst ha'
              refine wpAnyH_next (i := 1) (v := .slice (some ⟨b', off', none⟩) out.length cr) rfl (by kernel_rfl) (by kernel_rfl) (by kernel_rfl) (fun _ _ _ h => h) (by kernel_rfl) (fun W1 hW1 => by go_simp) hS (fun a' ha' => ?_)
              simp only [Act.put, List.getElem_toArray, List.getElem_cons_succ, List.getElem_cons_zero, List.setIfInBounds_toArray, List.set_cons_succ, List.set_cons_zero] at ha'
              subst ha'
              refine wpAnyH_next (i := 2) (v := .int .i64 (n : Int)) rfl (by kernel_rfl) (by kernel_rfl) (by kernel_rfl) (fun _ _ _ h => h) (by kernel_rfl) (fun W1 hW1 => by go_simp) hS (fun a' ha' => ?_)
              simp only [Act.put, List.getElem_toArray, List.getElem_cons_succ, List.getElem_cons_zero, List.setIfInBounds_toArray, List.set_cons_succ, List.set_cons_zero] at ha'
              subst ha'
              refine wpAnyH_next (i := 3) (v := .slice (some ⟨b', off', none⟩) n cr) rfl (by kernel_rfl) (by kernel_rfl) (by kernel_rfl) (fun _ _ _ h => h) (by kernel_rfl) (fun W1 hW1 => by go_simp) hS (fun a' ha' => ?_)
              simp only [Act.put, List.getElem_toArray, List.getElem_cons_succ, List.getElem_cons_zero, List.setIfInBounds_toArray, List.set_cons_succ, List.set_cons_zero] at ha'
              subst ha'
              refine wpAnyH_next (i := 5) (v := .slice (some ⟨b, off, none⟩) l.length c) rfl (by kernel_rfl) (by kernel_rfl) (by kernel_rfl) (fun _ _ _ h => h) (by kernel_rfl) (fun W1 hW1 => by go_simp) hS (fun a' ha' => ?_)
              simp only [Act.put, List.getElem_toArray, List.getElem_cons_succ, List.getElem_cons_zero, List.setIfInBounds_toArray, List.set_cons_succ, List.set_cons_zero] at ha'
              subst ha'
              refine wpAnyH_next (i := 6) (v := .int .i64 (k : Int)) rfl (by kernel_rfl) (by kernel_rfl) (by kernel_rfl) (fun _ _ _ h => h) (by kernel_rfl) (fun W1 hW1 => by go_simp) hS (fun a' ha' => ?_)
              simp only [Act.put, List.getElem_toArray, List.getElem_cons_succ, List.getElem_cons_zero, List.setIfInBounds_toArray, List.set_cons_succ, List.set_cons_zero] at ha'
              subst ha'
              refine wpAnyH_next (i := 7) (v := .pointer (some ⟨b, off + k * 32, none⟩)) rfl (by kernel_rfl) (by kernel_rfl) (by kernel_rfl) (fun _ _ _ h => h) (by kernel_rfl) (fun W1 hW1 => by go_simp) hS (fun a' ha' => ?_)
              simp only [Act.put, List.getElem_toArray, List.getElem_cons_succ, List.getElem_cons_zero, List.setIfInBounds_toArray, List.set_cons_succ, List.set_cons_zero] at ha'
              subst ha'
              refine wpAnyH_next (i := 8) (v := IdV x) rfl (by kernel_rfl) (by kernel_rfl) (by kernel_rfl) (fun _ _ _ h => h) (by kernel_rfl) (fun W1 hW1 => by exact exec_load_id rfl rfl hx32 hW1.1) hS (fun a' ha' => ?_)
              simp only [Act.put, List.getElem_toArray, List.getElem_cons_succ, List.getElem_cons_zero, List.setIfInBounds_toArray, List.set_cons_succ, List.set_cons_zero] at ha'
              subst ha'
              refine wpAnyH_two (i := 4) (j := 9) (by kernel_rfl) rfl rfl rfl rfl (fun K hK => ?ka) (fun K hK => ?kb)
              case' ka =>
                refine wp_append_is (.tmp 39) (.tmp 42) rfl w3.heap.size _ [] rfl (RowI.nil _ _) _ (out.take n) rfl (htk.below hS.2) (by simp; omega) hS.2.size ?_
                intro v4 w4 hown4 hg4 _
                rw [List.nil_append] at hown4
                have h4 : Below w3.heap.size w3 w4 := hS.2.trans ((Kept.of_grown hg4).below (fun j _ e => by have e' : (none : Option Nat) = some j := e; cases e') hS.2.size)
                refine hK _ _ ⟨hatO.below h4, h4⟩ ?_
                clear hK K hg4
                refine wpAnyH_one (i := 9) (by kernel_rfl) rfl rfl (fun K hK => ?_)
                refine wp_one_id (.tmp 47) rfl hx32 rfl ?_
                have h5 := h4.alloc h4.size (.cells (x.map B8).toArray 25)
                have hone := Is.one w4 hx32 25
                have hown5 := hown4.below ((Below.refl _ w4).alloc (Nat.le_refl _) (.cells (x.map B8).toArray 25))
                refine hK _ _ ⟨hatO.below h5, h5⟩ ?_
                clear hK K
                obtain ⟨A4, c4, rfl, _⟩ := hown4.slice
                clear hown4
                generalize w4.alloc (.cells (x.map B8).toArray 25) = w5 at *
                generalize w4.heap.size = g4 at *
              case' kb =>
                refine wp_one_id (.tmp 47) rfl hx32 rfl ?_
                have h4 := hS.2.alloc hS.2.size (.cells (x.map B8).toArray 25)
                have hone := Is.one w3.drew hx32 25
                refine hK _ _ ⟨hatO.below h4, h4⟩ ?_
                clear hK K
                refine wpAnyH_one (i := 4) (by kernel_rfl) rfl rfl (fun K hK => ?_)
                refine wp_append_is (.tmp 39) (.tmp 42) rfl w3.heap.size _ [] rfl (RowI.nil _ _) _ (out.take n) rfl (htk.below h4) (by simp; omega) h4.size ?_
                intro v4 w5 hown5 hg4 _
                rw [List.nil_append] at hown5
                have hb5 := (Kept.of_grown hg4).below (B := (w3.drew.alloc (.cells (x.map B8).toArray 25)).heap.size) (fun j _ e => by have e' : (none : Option Nat) = some j := e; cases e') (Nat.le_refl _)
                have h5 : Below w3.heap.size w3 w5 := h4.trans (hb5.mono h4.size)
                replace hone := hone.below hb5
                refine hK _ _ ⟨hatO.below h5, h5⟩ ?_
                clear hK K hg4 hb5 h4
                obtain ⟨A4, c4, rfl, _⟩ := hown5.slice
                generalize w3.drew.heap.size = g4 at *
              all_goals
                have hBw5 : w.heap.size ≤ w5.heap.size := by have := hBwo.size; have := h5.size; omega
                refine wpAnyH_one (i := 10) (by kernel_rfl) rfl rfl (fun K hK => ?_)
                refine wp_append_is (.tmp 43) (.tmp 48) rfl w3.heap.size _ _ rfl hown5 _ [x] rfl hone (by simp; omega) h5.size ?_
                intro v6 w6 hown6 hg6 _
                have hBs6 : Below w3.heap.size w3 w6 := h5.trans ((Kept.of_grown hg6).below (fun j _ e => (hown5.own.lt j e).1) h5.size)
                have h6 : Below w.heap.size w w6 := hBwo.trans (hBs6.mono hBwo.size)
                refine hK _ _ ⟨hat.below h6, hBs6⟩ ?_
                clear hK K
                refine wpAnyH_next (i := 11) (v := v6) rfl (by kernel_rfl) (by kernel_rfl) (by kernel_rfl) (fun _ _ _ h => h) (by kernel_rfl) (fun W1 hW1 => by go_simp) ⟨hat.below h6, hBs6⟩ (fun a' ha' => ?_)
                simp only [Act.put, List.getElem_toArray, List.getElem_cons_succ, List.getElem_cons_zero, List.setIfInBounds_toArray, List.set_cons_succ, List.set_cons_zero] at ha'
                subst ha'
                refine wpAnyH_fin (by kernel_rfl) ?_ _
                have hcn : ¬ cr = n := by omega
                rw [if_neg hcn] at hdr
                have hdr6 : Is w6 (.slice (some ⟨b', off' + n * 32, none⟩) (out.length - n) (cr - n)) (out.drop n) := by have h := hdr.below hBs6; simpa [add_plain] using h
                obtain ⟨A6, c6, rfl, _⟩ := hown6.slice
                have hl6 : (out.take n ++ [x]).length ≤ 1001 := by simp; omega
                have hl7 : (out.drop n).length ≤ 1000 := by simp; omega
                have hs6 := h6.size
                have hown6' := hown6.base hBwo.size
                clear hone hown5 hg6 h5 hS hatO hrowO htk hdr hlt1
                go_wp2_with (at_builtin; (refine wpList_append_is rfl (.tmp 50) (.tmp 53) rfl w.heap.size _ _ rfl hown6' _ (out.drop n) rfl hdr6 (by omega) hs6 ?_; intro v7 w7 hown7 hg7 _))
                have h7 := h6.trans ((Kept.of_grown hg7).below (fun j _ e => (hown6'.own.lt j e).1) hs6)
                go_roundw
                case rel => exact ⟨k + 1, by omega, by go_num, by rw [HS2.out, HI.out]; exact hown7, h7⟩
                case measure => simp [intOf]; omega
          case neg =>
            obtain rfl : n = out.length := by omega
            have hS : Below w1.heap.size w1 wr.drew := hBn.drew
            go_wp2_with fail
            refine wp_held (fun W1 => Below w1.heap.size w1 W1) (by kernel_rfl) ?_
            refine wpAnyH_next (i := 0) (v := .int .i64 (out.length : Int)) rfl (by kernel_rfl) (by kernel_rfl) (by kernel_rfl) (fun _ _ _ h => h) (by kernel_rfl) (fun W1 hW1 => by go_simp) hS (fun a' ha' => ?_)
            simp only [Act.put, List.getElem_toArray, List.getElem_cons_zero, List.setIfInBounds_toArray, List.set_cons_succ, List.set_cons_zero] at ha'
            subst ha'
            refine wpAnyH_next (i := 1) (v := .slice Ar out.length cr) rfl (by kernel_rfl) (by kernel_rfl) (by kernel_rfl) (fun _ _ _ h => h) (by kernel_rfl) (fun W1 hW1 => by go_simp) hS (fun a' ha' => ?_)
            simp only [Act.put, List.getElem_toArray, List.getElem_cons_succ, List.getElem_cons_zero, List.setIfInBounds_toArray, List.set_cons_succ, List.set_cons_zero] at ha'
            subst ha'
            refine wpAnyH_next (i := 2) (v := .int .i64 (out.length : Int)) rfl (by kernel_rfl) (by kernel_rfl) (by kernel_rfl) (fun _ _ _ h => h) (by kernel_rfl) (fun W1 hW1 => by go_simp) hS (fun a' ha' => ?_)
            simp only [Act.put, List.getElem_toArray, List.getElem_cons_succ, List.getElem_cons_zero, List.setIfInBounds_toArray, List.set_cons_succ, List.set_cons_zero] at ha'
            subst ha'
            refine wpAnyH_next (i := 3) (v := .bool false) rfl (by kernel_rfl) (by kernel_rfl) (by kernel_rfl) (fun _ _ _ h => h) (by kernel_rfl) (fun W1 hW1 => by go_simp) hS (fun a' ha' => ?_)
            simp only [Act.put, List.getElem_toArray, List.getElem_cons_succ, List.getElem_cons_zero, List.setIfInBounds_toArray, List.set_cons_succ, List.set_cons_zero] at ha'
            subst ha'
            refine wpAnyH_next (i := 4) (v := .bool false) rfl (by kernel_rfl) (by kernel_rfl) (by kernel_rfl) (fun _ _ _ h => h) (by kernel_rfl) (fun W1 hW1 => by go_simp) hS (fun a' ha' => ?_)
            simp only [Act.put, List.getElem_toArray, List.getElem_cons_succ, List.getElem_cons_zero, List.setIfInBounds_toArray, List.set_cons_succ, List.set_cons_zero] at ha'
            subst ha'
            refine wpAnyH_skip (i := 5) rfl (by kernel_rfl) (by kernel_rfl) (by kernel_rfl) (fun _ _ _ h => h) (by kernel_rfl) hS (fun a' ha' => ?_)
            simp only [Act.put, List.getElem_toArray, List.getElem_cons_succ, List.getElem_cons_zero, List.setIfInBounds_toArray, List.set_cons_succ, List.set_cons_zero] at ha'
            subst ha'
            refine wpAnyH_skip (i := 6) rfl (by kernel_rfl) (by kernel_rfl) (by kernel_rfl) (fun _ _ _ h => h) (by kernel_rfl) hS (fun a' ha' => ?_)
            simp only [Act.put, List.getElem_toArray, List.getElem_cons_succ, List.getElem_cons_zero, List.setIfInBounds_toArray, List.set_cons_succ, List.set_cons_zero] at ha'
            subst ha'
            refine wpAnyH_skip (i := 7) rfl (by kernel_rfl) (by kernel_rfl) (by kernel_rfl) (fun _ _ _ h => h) (by kernel_rfl) hS (fun a' ha' => ?_)
            simp only [Act.put, List.getElem_toArray, List.getElem_cons_succ, List.getElem_cons_zero, List.setIfInBounds_toArray, List.set_cons_succ, List.set_cons_zero] at ha'
            subst ha'
            refine wpAnyH_skip (i := 8) rfl (by kernel_rfl) (by kernel_rfl) (by kernel_rfl) (fun _ _ _ h => h) (by kernel_rfl) hS (fun a' ha' => ?_)
            simp only [Act.put, List.getElem_toArray, List.getElem_cons_succ, List.getElem_cons_zero, List.setIfInBounds_toArray, List.set_cons_succ, List.set_cons_zero] at ha'
            subst ha'
            refine wpAnyH_skip (i := 9) rfl (by kernel_rfl) (by kernel_rfl) (by kernel_rfl) (fun _ _ _ h => h) (by kernel_rfl) hS (fun a' ha' => ?_)
            simp only [Act.put, List.getElem_toArray, List.getElem_cons_succ, List.getElem_cons_zero, List.setIfInBounds_toArray, List.set_cons_succ, List.set_cons_zero] at ha'
            subst ha'
            refine wpAnyH_skip (i := 10) rfl (by kernel_rfl) (by kernel_rfl) (by kernel_rfl) (fun _ _ _ h => h) (by kernel_rfl) hS (fun a' ha' => ?_)
            simp only [Act.put, List.getElem_toArray, List.getElem_cons_succ, List.getElem_cons_zero, List.setIfInBounds_toArray, List.set_cons_succ, List.set_cons_zero] at ha'
            subst ha'
            refine wpAnyH_skip (i := 11) rfl (by kernel_rfl) (by kernel_rfl) (by kernel_rfl) (fun _ _ _ h => h) (by kernel_rfl) hS (fun a' ha' => ?_)
            simp only [Act.put, List.getElem_toArray, List.getElem_cons_succ, List.getElem_cons_zero, List.setIfInBounds_toArray, List.set_cons_succ, List.set_cons_zero] at ha'
            subst ha'
            refine wpAnyH_skip (i := 12) rfl (by kernel_rfl) (by kernel_rfl) (by kernel_rfl) (fun _ _ _ h => h) (by kernel_rfl) hS (fun a' ha' => ?_)
            simp only [Act.put, List.getElem_toArray, List.getElem_cons_succ, List.getElem_cons_zero, List.setIfInBounds_toArray, List.set_cons_succ, List.set_cons_zero] at ha'
            subst ha'
            refine wpAnyH_skip (i := 13) rfl (by kernel_rfl) (by kernel_rfl) (by kernel_rfl) (fun _ _ _ h => h) (by kernel_rfl) hS (fun a' ha' => ?_)
            simp only [Act.put, List.getElem_toArray, List.getElem_cons_succ, List.getElem_cons_zero, List.setIfInBounds_toArray, List.set_cons_succ, List.set_cons_zero] at ha'
            subst ha'
            refine wpAnyH_skip (i := 14) rfl (by kernel_rfl) (by kernel_rfl) (by kernel_rfl) (fun _ _ _ h => h) (by kernel_rfl) hS (fun a' ha' => ?_)
            simp only [Act.put, List.getElem_toArray, List.getElem_cons_succ, List.getElem_cons_zero, List.setIfInBounds_toArray, List.set_cons_succ, List.set_cons_zero] at ha'
            subst ha'
            refine wpAnyH_next (i := 15) (v := .bool false) rfl (by kernel_rfl) (by kernel_rfl) (by kernel_rfl) (fun _ _ _ h => h) (by kernel_rfl) (fun W1 hW1 => by go_simp) hS (fun a' ha' => ?_)
            simp only [Act.put, List.getElem_toArray, List.getElem_cons_succ, List.getElem_cons_zero, List.setIfInBounds_toArray, List.set_cons_succ, List.set_cons_zero] at ha'
            subst ha'
            refine wpAnyH_fin (by kernel_rfl) ?_ _
            obtain ⟨ht1, ht2⟩ := takeWhile_at (p := fun y => decide (cmpB y x < 0)) (out := out) (n := out.length) (fun i z hi hz => decide_eq_true (HALL.out i z hi hz)) (.inl rfl) (by omega)
            have HI := Lib.hid (show insI x out = out.take out.length ++ [x] ++ out.drop out.length by unfold insI; rw [ht1, ht2])
            have hBo : Below w1.heap.size w1 wr.drew := hS
            have hrowO := HROW1.out.below hBo
            have hBwo := hB1.trans (hBo.mono hB1.size)
            have htk := hrowO.is.take (k := out.length) (by omega)
            have hdr := hrowO.is.drop (k := out.length) (by omega)
            have hatO := hat.below hBwo
            have hncr : out.length ≤ cr := by omega
            have hlt1 : (out.take out.length).length ≤ 1000 := by simp; omega
            clear ht1 ht2 HALL hS
            go_wp2_with fail
            have hS : IdAt wr.drew.drew b (off + k * 32) x ∧ Below wr.drew.heap.size wr.drew wr.drew.drew := ⟨hatO.below (Below.refl _ _).drew, (Below.refl _ _).drew⟩
            refine wp_held (fun W1 => IdAt W1 b (off + k * 32) x ∧ Below wr.drew.heap.size wr.drew W1) (by kernel_rfl) ?_
            refine wpAnyH_next (i := 0) (v := .slice none 0 0) rfl (by kernel_rfl) (by kernel_rfl) (by kernel_rfl) (fun _ _ _ h => h) (by kernel_rfl) (fun W1 hW1 => by go_simp) hS (fun a' ha' => ?_)
            simp only [Act.put, List.getElem_toArray, List.getElem_cons_zero, List.setIfInBounds_toArray, List.set_cons_succ, List.set_cons_zero] at ha'
            subst ha'
            refine wpAnyH_next (i := 1) (v := .slice Ar out.length cr) rfl (by kernel_rfl) (by kernel_rfl) (by kernel_rfl) (fun _ _ _ h => h) (by kernel_rfl) (fun W1 hW1 => by go_simp) hS (fun a' ha' => ?_)
            simp only [Act.put, List.getElem_toArray, List.getElem_cons_succ, List.getElem_cons_zero, List.setIfInBounds_toArray, List.set_cons_succ, List.set_cons_zero] at ha'
            subst ha'
            refine wpAnyH_next (i := 2) (v := .int .i64 (out.length : Int)) rfl (by kernel_rfl) (by kernel_rfl) (by kernel_rfl) (fun _ _ _ h => h) (by kernel_rfl) (fun W1 hW1 => by go_simp) hS (fun a' ha' => ?_)
            simp only [Act.put, List.getElem_toArray, List.getElem_cons_succ, List.getElem_cons_zero, List.setIfInBounds_toArray, List.set_cons_succ, List.set_cons_zero] at ha'
            subst ha'
            refine wpAnyH_next (i := 3) (v := .slice Ar out.length cr) rfl (by kernel_rfl) (by kernel_rfl) (by kernel_rfl) (fun _ _ _ h => h) (by kernel_rfl) (fun W1 hW1 => by go_simp) hS (fun a' ha' => ?_)
            simp only [Act.put, List.getElem_toArray, List.getElem_cons_succ, List.getElem_cons_zero, List.setIfInBounds_toArray, List.set_cons_succ, List.set_cons_zero] at ha'
            subst ha'
            refine wpAnyH_next (i := 5) (v := .slice (some ⟨b, off, none⟩) l.length c) rfl (by kernel_rfl) (by kernel_rfl) (by kernel_rfl) (fun _ _ _ h => h) (by kernel_rfl) (fun W1 hW1 => by go_simp) hS (fun a' ha' => ?_)
            simp only [Act.put, List.getElem_toArray, List.getElem_cons_succ, List.getElem_cons_zero, List.setIfInBounds_toArray, List.set_cons_succ, List.set_cons_zero] at ha'
            subst ha'
            refine wpAnyH_next (i := 6) (v := .int .i64 (k : Int)) rfl (by kernel_rfl) (by kernel_rfl) (by kernel_rfl) (fun _ _ _ h => h) (by kernel_rfl) (fun W1 hW1 => by go_simp) hS (fun a' ha' => ?_)
            simp only [Act.put, List.getElem_toArray, List.getElem_cons_succ, List.getElem_cons_zero, List.setIfInBounds_toArray, List.set_cons_succ, List.set_cons_zero] at ha'
            subst ha'
            refine wpAnyH_next (i := 7) (v := .pointer (some ⟨b, off + k * 32, none⟩)) rfl (by kernel_rfl) (by kernel_rfl) (by kernel_rfl) (fun _ _ _ h => h) (by kernel_rfl) (fun W1 hW1 => by go_simp) hS (fun a' ha' => ?_)
            simp only [Act.put, List.getElem_toArray, List.getElem_cons_succ, List.getElem_cons_zero, List.setIfInBounds_toArray, List.set_cons_succ, List.set_cons_zero] at ha'
            subst ha'
            refine wpAnyH_next (i := 8) (v := IdV x) rfl (by kernel_rfl) (by kernel_rfl) (by kernel_rfl) (fun _ _ _ h => h) (by kernel_rfl) (fun W1 hW1 => by exact exec_load_id rfl rfl hx32 hW1.1) hS (fun a' ha' => ?_)
            simp only [Act.put, List.getElem_toArray, List.getElem_cons_succ, List.getElem_cons_zero, List.setIfInBounds_toArray, List.set_cons_succ, List.set_cons_zero] at ha'
            subst ha'
            refine wpAnyH_two (i := 4) (j := 9) (by kernel_rfl) rfl rfl rfl rfl (fun K hK => ?kc) (fun K hK => ?kd)
            case' kc =>
              refine wp_append_is (.tmp 39) (.tmp 42) rfl wr.drew.heap.size _ [] rfl (RowI.nil _ _) _ (out.take out.length) rfl (htk.below hS.2) (by simp; omega) hS.2.size ?_
              intro v4 w4 hown4 hg4 _
              rw [List.nil_append] at hown4
              have h4 : Below wr.drew.heap.size wr.drew w4 := hS.2.trans ((Kept.of_grown hg4).below (fun j _ e => by have e' : (none : Option Nat) = some j := e; cases e') hS.2.size)
              refine hK _ _ ⟨hatO.below h4, h4⟩ ?_
              clear hK K hg4
              refine wpAnyH_one (i := 9) (by kernel_rfl) rfl rfl (fun K hK => ?_)
              refine wp_one_id (.tmp 47) rfl hx32 rfl ?_
              have h5 := h4.alloc h4.size (.cells (x.map B8).toArray 25)
              have hone := Is.one w4 hx32 25
              have hown5 := hown4.below ((Below.refl _ w4).alloc (Nat.le_refl _) (.cells (x.map B8).toArray 25))
              refine hK _ _ ⟨hatO.below h5, h5⟩ ?_
              clear hK K
              obtain ⟨A4, c4, rfl, _⟩ := hown4.slice
              clear hown4
              generalize w4.alloc (.cells (x.map B8).toArray 25) = w5 at *
              generalize w4.heap.size = g4 at *
            case' kd =>
              refine wp_one_id (.tmp 47) rfl hx32 rfl ?_
              have h4 := hS.2.alloc hS.2.size (.cells (x.map B8).toArray 25)
              have hone := Is.one wr.drew.drew hx32 25
              refine hK _ _ ⟨hatO.below h4, h4⟩ ?_
              clear hK K
              refine wpAnyH_one (i := 4) (by kernel_rfl) rfl rfl (fun K hK => ?_)
              refine wp_append_is (.tmp 39) (.tmp 42) rfl wr.drew.heap.size _ [] rfl (RowI.nil _ _) _ (out.take out.length) rfl (htk.below h4) (by simp; omega) h4.size ?_
              intro v4 w5 hown5 hg4 _
              rw [List.nil_append] at hown5
              have hb5 := (Kept.of_grown hg4).below (B := (wr.drew.drew.alloc (.cells (x.map B8).toArray 25)).heap.size) (fun j _ e => by have e' : (none : Option Nat) = some j := e; cases e') (Nat.le_refl _)
              have h5 : Below wr.drew.heap.size wr.drew w5 := h4.trans (hb5.mono h4.size)
              replace hone := hone.below hb5
              refine hK _ _ ⟨hatO.below h5, h5⟩ ?_
              clear hK K hg4 hb5 h4
              obtain ⟨A4, c4, rfl, _⟩ := hown5.slice
              generalize wr.drew.drew.heap.size = g4 at *
            all_goals
              have hBw5 : w.heap.size ≤ w5.heap.size := by have := hBwo.size; have := h5.size; omega
              refine wpAnyH_one (i := 10) (by kernel_rfl) rfl rfl (fun K hK => ?_)
              refine wp_append_is (.tmp 43) (.tmp 48) rfl wr.drew.heap.size _ _ rfl hown5 _ [x] rfl hone (by simp; omega) h5.size ?_
              intro v6 w6 hown6 hg6 _
              have hBs6 : Below wr.drew.heap.size wr.drew w6 := h5.trans ((Kept.of_grown hg6).below (fun j _ e => (hown5.own.lt j e).1) h5.size)
              have h6 : Below w.heap.size w w6 := hBwo.trans (hBs6.mono hBwo.size)
              refine hK _ _ ⟨hat.below h6, hBs6⟩ ?_
              clear hK K
              refine wpAnyH_next (i := 11) (v := v6) rfl (by kernel_rfl) (by kernel_rfl) (by kernel_rfl) (fun _ _ _ h => h) (by kernel_rfl) (fun W1 hW1 => by go_simp) ⟨hat.below h6, hBs6⟩ (fun a' ha' => ?_)
              simp only [Act.put, List.getElem_toArray, List.getElem_cons_succ, List.getElem_cons_zero, List.setIfInBounds_toArray, List.set_cons_succ, List.set_cons_zero] at ha'
              subst ha'
              refine wpAnyH_fin (by kernel_rfl) ?_ _
              have hde : out.drop out.length = [] := List.drop_length
              rw [hde] at HI
              obtain ⟨A6, c6, rfl, _⟩ := hown6.slice
              have hl6 : (out.take out.length ++ [x]).length ≤ 1001 := by simp; omega
              have hs6 := h6.size
              have hown6' := hown6.base hBwo.size
              clear hone hown5 hg6 h5 hS hatO hrowO htk hdr hlt1
              go_wp2_with (at_builtin; (refine wpList_append_is rfl (.tmp 50) (.tmp 53) rfl w.heap.size _ _ rfl hown6' _ [] rfl (Is.empty _ _ _) (by simp at hl6 ⊢; omega) hs6 ?_; intro v7 w7 hown7 hg7 _))
              have h7 := h6.trans ((Kept.of_grown hg7).below (fun j _ e => (hown6'.own.lt j e).1) hs6)
              go_roundw
              case rel => exact ⟨k + 1, by omega, by go_num, by rw [HS2.out, HI.out]; simpa using hown7, h7⟩
              case measure => simp [intOf]; omega
theorem rSet_any (w : World) (v : Value) (l : List (List UInt8)) (hl : Is w v l) (hll : l.length ≤ 1000) :
    Calls Tryz.prog 69 #[v] w fun e W' => ∃ v', e = .returned v' ∧ RowI W' w.heap.size v' (setI l) ∧ Below w.heap.size w W' := by
  obtain ⟨A, c, rfl, _⟩ := hl.form
  exact rSet_form w A c l hl hll
end Go.Proofs.YtljihmbmjpcfaaaGreat
