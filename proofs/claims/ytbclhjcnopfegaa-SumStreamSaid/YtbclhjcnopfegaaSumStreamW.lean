/- The walk of SumStream. -/
import Derived.Test.YtbclhjcnopfegaaSumAlive
namespace Go.Proofs.Ytbclhjcnopfegaa
open Go.RowKit

/-- Wrapped one behind the other. -/
def wraps (l : List (Value × List UInt8)) : List UInt8 := (l.map (fun p => wrapB p.2)).flatten
theorem wraps_take_succ (l : List (Value × List UInt8)) (k : Nat) (p : Value × List UInt8) (h : l[k]? = some p) : wraps (l.take (k + 1)) = wraps (l.take k) ++ wrapB p.2 := by
  unfold wraps
  rw [List.take_add_one, h]
  simp
theorem wraps_drop (l : List (Value × List UInt8)) (k : Nat) (hk : k < l.length) : wraps (l.drop k) = wrapB l[k].2 ++ wraps (l.drop (k + 1)) := by
  unfold wraps
  rw [List.drop_eq_getElem_cons hk, List.map_cons, List.flatten_cons]
theorem wraps_le : ∀ (l : List (Value × List UInt8)), (∀ p ∈ l, p.2.length ≤ 300) → (wraps l).length ≤ 308 * l.length := by
  intro l
  induction l with
  | nil => intro _; simp [wraps]
  | cons p l ih =>
    intro h
    have h1 := ih (fun q hq => h q (List.mem_cons_of_mem _ hq))
    have h2 := h p List.mem_cons_self
    simp only [wraps, List.map_cons, List.flatten_cons, List.length_append, wrapB_length, List.length_cons] at h1 ⊢
    omega

set_option maxRecDepth 100000 in
set_option maxHeartbeats 2000000 in
theorem stream_some (w : World) (A B : Option Addr) (c d : Nat) (l : List (Value × List UInt8)) (hy : Ps w (.slice A l.length c) l) (ms : List UInt8) (hm : Bs w (.slice B ms.length d) ms) (hl : l.length ≤ 20) (hml : ms.length ≤ 300) (hp : ∀ p ∈ l, p.2.length ≤ 9223372036854775807) :
    Calls Try.prog 5 #[.slice A l.length c, .slice B ms.length d] w fun e W' => e = .returned (.bool true) ∧ Below w.heap.size w W' := by
  obtain ⟨i0, hi, hz0, hz1, hz2⟩ := info_parts infoU8
  go_enter Try.func5, Try.ntmps5
  go_wp2_with fail
  refine (alive_any _).mono ?_
  rintro e w1 ⟨rfl, h1⟩
  go_wp2_with fail
  go_loopw [6, 33] (fun v i wr => ∃ k : Nat, k ≤ l.length ∧ i = .int .i64 k ∧ (∀ p ∈ l.take k, p.2.length ≤ 300) ∧ Row wr w.heap.size v (wraps (l.take k)) ∧ Below w.heap.size w wr) (fun _ i _ => l.length - (intOf i).toNat)
  case atStart => exact ⟨0, by omega, rfl, by simp, World.ownsRow_nil _ _ _ _, h1⟩
  case round =>
    obtain ⟨k, hk, rfl, hsm, hrow, hB⟩ := hrel
    have hwl := wraps_le _ hsm
    have HSM := Lib.hid hsm
    rw [List.length_take, Nat.min_eq_left hk] at hwl
    clear hsm
    by_cases hlt : k < l.length
    · obtain ⟨A', c', he, hpp⟩ := hy
      injection he with e1 e2 e3
      subst e1 e3
      obtain ⟨p, hpk⟩ : ∃ p, l[k]? = some p := ⟨l[k], List.getElem?_eq_getElem hlt⟩
      obtain ⟨⟨b, off, rfl, hc⟩, hbs⟩ := hpp k p hpk
      have hc1 := (hB.cell (p := ⟨b, off + k, none⟩) (World.block_lt_of_cell? _ _ hc)).trans hc
      have hbs1 := hbs.below hB
      have hpl := hp p (List.mem_of_getElem? hpk)
      have HW := Lib.hid (wraps_take_succ l k p hpk)
      have HSM' := Lib.hid (show p.2.length ≤ 300 → ∀ p ∈ l.take (k + 1), p.2.length ≤ 300 by
        intro h p' hp'
        rw [List.take_add_one, hpk] at hp'
        rcases List.mem_append.1 hp' with h2 | h2
        · exact HSM.out p' h2
        · simp at h2; subst h2; exact h)
      obtain ⟨u, xs⟩ := p
      dsimp only at hc hc1 hbs hbs1 hpl HW HSM'
      obtain ⟨Au, cu, rfl, _⟩ := hbs1.form
      have HRO := Lib.hid hrow
      clear hpp hp hpk HSM hbs hc hrow
      by_cases h4 : 4194304 < xs.length
      · clear HSM' HW hm
        go_wp2_with fail
        refine (Wrap_most wr _ _ _ h4 hpl).mono ?_
        rintro e w2 ⟨rfl, h2⟩
        have h300 : 300 < xs.length := by omega
        go_wp2
        go_ret
        exact ⟨rfl, hB.trans (h2.mono hB.size)⟩
      · go_wp2_with fail
        refine (Wrap_any wr _ xs hbs1 (by omega)).mono ?_
        rintro e w2 ⟨v2, rfl, hown2, h2⟩
        have hB2 := hB.trans (h2.mono hB.size)
        have HB2 := Lib.hid (Bs.of_owns hown2)
        have hwl2 := wrapB_length xs
        obtain ⟨A2, n2, c2, rfl⟩ := owns_slice hown2
        clear hown2
        by_cases h3 : 300 < xs.length
        · clear hwl2
          go_wp2
          go_ret
          exact ⟨rfl, hB2⟩
        · have hrow2 := owns_below HRO.out h2
          have HL2 := Lib.hid hwl2
          obtain ⟨Av, nv, cv, rfl⟩ := owns_slice hrow2
          clear hwl2
          go_wp2_with (at_builtin; refine wpList_append_bs rfl (.tmp 55) (.tmp 56) 22 rfl w.heap.size 5 i0 Try.underlying22 hi hz0 hz1 hz2 _ _ rfl hrow2 _ _ rfl HB2.out (by rw [HL2.out]; omega) hB2.size ?_; intro v3 w3 hown3 hg3 _ _ _)
          go_roundw
          case rel => exact ⟨k + 1, by omega, by go_num, HSM'.out (by omega), by rw [HW.out]; exact hown3, hB2.trans ((Kept.of_grown hg3).below (fun j _ e => (hrow2.lt j e).1) hB2.size)⟩
          case measure => simp [intOf]; omega
    · obtain rfl : k = l.length := by omega
      have hsm := HSM.out
      rw [List.take_length] at hsm hrow hwl
      have HSA := Lib.hid hsm
      have hm1 := hm.below hB
      obtain ⟨Av, nv, cv, rfl⟩ := owns_slice hrow
      clear HSM hsm hk hlt
      go_wp2_with (at_builtin; refine wpList_append_bs rfl (.tmp 59) (.tmp 60) 22 rfl w.heap.size 5 i0 Try.underlying22 hi hz0 hz1 hz2 _ _ rfl hrow _ ms rfl hm1 (by omega) hB.size ?_; intro v3 w3 hown3 hg3 _ _ _)
      have hB3 := hB.trans ((Kept.of_grown hg3).below (fun j _ e => (hrow.lt j e).1) hB.size)
      have hb3 := Bs.of_owns hown3
      clear hg3 hrow hown3 hB hm1
      go_loopw [11, 64] (fun v i wr => ∃ k : Nat, k ≤ l.length ∧ i = .int .i64 k ∧ Bs wr v (wraps (l.drop k) ++ ms) ∧ Below w.heap.size w wr) (fun _ i _ => l.length - (intOf i).toNat)
      case atStart => exact ⟨0, by omega, rfl, by simpa using hb3, hB3⟩
      case round =>
        clear hb3 hB3
        obtain ⟨k, hk, rfl, hbr, hB⟩ := hrel
        by_cases hlt : k < l.length
        · obtain ⟨A', c', he, hpp⟩ := hy
          injection he with e1 e2 e3
          subst e1 e3
          obtain ⟨p, hpk⟩ : ∃ p, l[k] = p := ⟨_, rfl⟩
          have hpk' : l[k]? = some p := by rw [List.getElem?_eq_getElem hlt, hpk]
          obtain ⟨⟨b, off, rfl, hc⟩, hbs⟩ := hpp k p hpk'
          have hc1 := (hB.cell (p := ⟨b, off + k, none⟩) (World.block_lt_of_cell? _ _ hc)).trans hc
          have hbs1 := hbs.below hB
          have hpl := HSA.out p (List.mem_of_getElem? hpk')
          have hwd := wraps_drop l k hlt
          rw [hpk] at hwd
          rw [hwd, List.append_assoc] at hbr
          have hwl2 := wraps_le (l.drop (k + 1)) (fun q hq => HSA.out q (List.mem_of_mem_drop hq))
          rw [List.length_drop] at hwl2
          obtain ⟨u, xs⟩ := p
          dsimp only at hc hc1 hbs hbs1 hpl hbr
          obtain ⟨Au, cu, rfl, _⟩ := hbs1.form
          obtain ⟨Ar, cr, rfl, _⟩ := hbr.form
          have hlen : (wrapB xs ++ (wraps (l.drop (k + 1)) ++ ms)).length ≤ 140737488355328 := by simp [wrapB_length]; omega
          obtain ⟨n0, hn0⟩ : ∃ n, n = (wrapB xs ++ (wraps (l.drop (k + 1)) ++ ms)).length := ⟨_, rfl⟩
          rw [← hn0] at hbr
          rw [← hn0]
          have HBR := Lib.hid (And.intro hbr (And.intro hlen (And.intro hpl hbs)))
          clear hpp hp hpk hpk' hbs hc hwd hbr hwl2 hlen hpl hn0
          go_wp2_with fail
          refine (First_ok wr _ _ HBR.out.1 HBR.out.2.1 xs _ (splitR_wrap (by have := HBR.out.2.2.1; omega) _)).mono ?_
          rintro e w4 ⟨v4, v5, rfl, hown4, hown5, _, h4⟩
          have hB4 := hB.trans (h4.mono hB.size)
          have hcv1 := run_string_bs (P := Try.prog) w4 22 9 5 Try.underlying22 Try.underlying5 Try.underlying9 (Bs.of_owns hown4)
          have hcv2 := run_string_bs (P := Try.prog) w4 22 9 5 Try.underlying22 Try.underlying5 Try.underlying9 (HBR.out.2.2.2.below hB4)
          have HB5 := Lib.hid (Bs.of_owns hown5)
          obtain ⟨A4, n4, c4, rfl⟩ := owns_slice hown4
          obtain ⟨A5, n5, c5, rfl⟩ := owns_slice hown5
          clear hown4 hown5 hc1 hbs1 HBR
          go_wp2_with fail
          go_roundw
          case rel => exact ⟨k + 1, by omega, by go_num, HB5.out, hB4⟩
          case measure => simp [intOf]; omega
        · obtain rfl : k = l.length := by omega
          rw [List.drop_length] at hbr
          simp only [wraps, List.map_nil, List.flatten_nil, List.nil_append] at hbr
          have hcv1 := run_string_bs (P := Try.prog) wr 22 9 5 Try.underlying22 Try.underlying5 Try.underlying9 hbr
          have hcv2 := run_string_bs (P := Try.prog) wr 22 9 5 Try.underlying22 Try.underlying5 Try.underlying9 (hm.below hB)
          obtain ⟨Ar, cr, rfl, _⟩ := hbr.form
          go_wp2
          go_ret
          exact ⟨rfl, hB⟩

set_option maxRecDepth 100000 in
set_option maxHeartbeats 400000 in
theorem stream_great (w : World) (A B : Option Addr) (n m c d : Nat) (hn : n ≤ 9223372036854775807) (hm : m ≤ 9223372036854775807) (h : 20 < n ∨ 300 < m) :
    Calls Try.prog 5 #[.slice A n c, .slice B m d] w fun e W' => e = .returned (.bool true) ∧ Below w.heap.size w W' := by
  go_enter Try.func5, Try.ntmps5
  go_wp2_with fail
  refine (alive_any _).mono ?_
  rintro e w1 ⟨rfl, h1⟩
  by_cases hg : 20 < n
  · clear h
    go_wp2
    go_ret
    exact ⟨rfl, h1⟩
  · have h' : 300 < m := by omega
    clear h
    go_wp2
    go_ret
    exact ⟨rfl, h1⟩

/-- For all arguments. -/
theorem stream_any (w : World) (v : Value) (l : List (Value × List UInt8)) (hs : Ps w v l) (hl : l.length ≤ 9223372036854775807) (hp : ∀ p ∈ l, p.2.length ≤ 9223372036854775807) (u : Value) (ms : List UInt8) (hm : Bs w u ms) (hml : ms.length ≤ 9223372036854775807) :
    Calls Try.prog 5 #[v, u] w fun e W' => e = .returned (.bool true) ∧ Below w.heap.size w W' := by
  obtain ⟨A, c, rfl, hpp⟩ := hs
  obtain ⟨B, d, rfl, _⟩ := hm.form
  by_cases h : 20 < l.length ∨ 300 < ms.length
  · exact stream_great w A B _ _ c d hl hml h
  · exact stream_some w A B c d l ⟨A, c, rfl, hpp⟩ ms hm (by omega) (by omega) hp
end Go.Proofs.Ytbclhjcnopfegaa
