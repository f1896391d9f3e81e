/-
  The contracts of shortened lists, of evaluators and of the values of errors, of the program.
  Condition: the code is valid.
-/
import Derived.Test.YtkdpkbnhckpnoaaJQ
namespace Go.Proofs.Ytkdpkbnhckpnoaa
open Go.RowKit
set_option linter.unusedSimpArgs false
set_option linter.unusedVariables false

section
variable {R : Fld} {γ : El R} {p k g : Int} {l c : Nat}
def TiRel (A : Option Addr) (n c : Nat) (ps : List (El R)) (v : Value) : Prop := ∃ m : Nat, m ≤ n ∧ v = .slice A m c ∧ Hid (trim (ps.take m) = trim ps)
theorem Ints.takeI {k : IntKind} {w : World} {B n m : Nat} {A : Option Addr} {zs : List Int} (h : Ints k w B A n zs) (hm : m ≤ n) : Ints k w B A m (zs.take m) := by
  have hl := h.len
  refine ⟨by rw [List.length_take]; omega, fun h0 => ?_⟩
  obtain ⟨b, off, e, hb, hc⟩ := h.2 (by omega)
  refine ⟨b, off, e, hb, fun j x hx => hc j x ?_⟩
  rw [List.getElem?_take] at hx
  split at hx
  · exact hx
  · cases hx

set_option maxHeartbeats 1000000 in
theorem implTrimI (ps : List (El R)) (A : Option Addr) (n c B : Nat) (w : World) (hI : Ints .i64 w B A n (iv ps)) (hcap : n ≤ c) (hn : n ≤ 1099511627776) :
    Calls Try.prog 115 #[.slice A n c] w fun x w' => x = .returned (.slice A (trim ps).length c) ∧ w = w' := by
  have hl : ps.length = n := by rw [← iv_len]; exact hI.len
  have HI := hide hI
  rcases Nat.eq_zero_or_pos n with h0 | h0
  · subst h0
    have HF := hide (show (trim ps).length = 0 by rw [List.eq_nil_of_length_eq_zero hl]; rfl)
    clear hI
    rw [HF.out]
    go_enter Try.func115, Try.ntmps115
    go_wp2_with fail
    go_loop [0] (fun v => v = .slice A 0 c) (fun v => 0)
    case atStart => rfl
    case round =>
      subst hrel
      go_wp2_with fail
      go_ret
      exact ⟨rfl, rfl⟩
  · obtain ⟨b, off, x0, rfl, _, _, _⟩ := hI.at_ h0
    clear hI
    go_enter Try.func115, Try.ntmps115
    go_wp2_with fail
    go_loop [0] (fun v => TiRel (some ⟨b, off, none⟩) n c ps v) (fun v => match v with | .slice _ m _ => m | _ => 0)
    case atStart => exact ⟨n, Nat.le_refl _, rfl, by rw [List.take_of_length_le (by omega)]; rfl⟩
    case round =>
      obtain ⟨m, hm, rfl, HT⟩ := hrel
      rcases Nat.eq_zero_or_pos m with rfl | hp
      · have HF := hide (show ps.take 0 = trim ps by rw [← HT.out]; rfl)
        have HZ := hide (show (trim ps).length = 0 by rw [← HF.out]; rfl)
        go_wp2_with fail
        go_ret
        exact ⟨by rw [HZ.out]; rfl, rfl⟩
      · obtain ⟨i, rfl⟩ : ∃ i, m = i + 1 := ⟨m - 1, by omega⟩
        have hw1 : ((i + 1 : Nat) : Int) - 1 = (i : Int) := by omega
        have hsn : ps.take (i + 1) = ps.take i ++ [cf ps i] := by rw [List.take_add_one, at_cf (by omega)]; rfl
        have HL := hide (show (iv (ps.take (i + 1))).getLast? = some ((cf ps i).val : Int) by rw [hsn, iv_app, iv_one]; simp)
        have HI1 := hide (show Ints .i64 w B (some ⟨b, off, none⟩) (i + 1) (iv (ps.take (i + 1))) by rw [← iv_take]; exact HI.out.takeI hm)
        by_cases hz : cf ps i = 0
        · have HN := hide (show trim (ps.take i) = trim ps by rw [← HT.out, hsn, hz, trim_zero])
          rw [hz] at HL
          clear hsn hz
          go_wp2_with fail
          refine (implLast (some ⟨b, off, none⟩) (i + 1) c B _ _ _ HI1.out HL.out (by omega)).mono ?_
          rintro e w1 ⟨rfl, rfl⟩
          go_wp2_with fail
          go_round
          case rel => exact ⟨i, by omega, rfl, HN⟩
          case measure => simp
        · have HF := hide (show ps.take (i + 1) = trim ps by rw [← HT.out, hsn, trim_more _ hz])
          have HZ := hide (show (trim ps).length = i + 1 by rw [← HF.out, List.length_take]; omega)
          have hv : ((((cf ps i).val : Nat) : Int) == 0) = false := by have := val_ne hz; simp; omega
          clear hsn hz
          go_wp2_with fail
          refine (implLast (some ⟨b, off, none⟩) (i + 1) c B _ _ _ HI1.out HL.out (by omega)).mono ?_
          rintro e w1 ⟨rfl, rfl⟩
          go_wp2_with fail
          go_ret
          exact ⟨by rw [HZ.out]; rfl, rfl⟩
theorem trim_take (ps : List (El R)) : ps.take (trim ps).length = trim ps := by
  have h1 := trim_le ps
  refine List.ext_getElem? fun i => ?_
  rw [List.getElem?_take]
  rcases Nat.lt_or_ge i (trim ps).length with h | h
  · rw [if_pos h, at_cf (by omega), at_cf h, cf_trim]
  · rw [if_neg (by omega), List.getElem?_eq_none h]

/-- The values at indices, and none if there are none. -/
def fvs (num : Nat → El R) (γ : El R) (l c : Nat) (S : List (El R)) (J : List Nat) : List (El R) := if valB γ l c S J = true then J.map (fvI num γ l c S J) else []
def fvK (num : Nat → El R) (γ : El R) (l c : Nat) (S : List (El R)) (J : List Nat) (k : Nat) : El R := fvI num γ l c S J (J.getD k 0)
theorem fvs_tab {num : Nat → El R} {S : List (El R)} {J : List Nat} (hv : valB γ l c S J = true) : tab J.length (fvK num γ l c S J) = fvs num γ l c S J := by
  rw [fvs, if_pos hv]
  refine List.ext_getElem? fun i => ?_
  rcases Nat.lt_or_ge i J.length with h | h
  · rw [tab_at _ h, List.getElem?_map, List.getElem?_eq_getElem h, fvK, List.getD_eq_getElem?_getD, List.getElem?_eq_getElem h]; rfl
  · rw [List.getElem?_eq_none (by rw [tab_len]; exact h), List.getElem?_eq_none (by rw [List.length_map]; exact h)]
theorem fvs_no {num : Nat → El R} {S : List (El R)} {J : List Nat} (hv : valB γ l c S J = false) : fvs num γ l c S J = [] := by rw [fvs, hv]; rfl

def FoRel (w : World) (p k g : Int) (l c n gS : Nat) (γ : El R) (A8 A9 A10 A11 : Option Addr) (m8 m9 m10 : Nat) (L O D : List (El R)) (f : Nat → El R) (i : Value) (wr : World) : Prop :=
  ∃ j : Nat, j ≤ n ∧ i = .int .i64 j ∧ Own wr gS 2 .i64 (.slice (some ⟨gS, 0, none⟩) n n) (iv (tab n fun k => if k < j then f k else 0)) ∧ Ints .i64 wr gS A9 m9 (iv O) ∧ Ints .i64 wr gS A10 m10 (iv D) ∧ Ints .i64 wr gS A11 l (iv (invT γ l)) ∧ gS < wr.heap.size ∧ CBox w wr p k g l c

end
end Go.Proofs.Ytkdpkbnhckpnoaa
