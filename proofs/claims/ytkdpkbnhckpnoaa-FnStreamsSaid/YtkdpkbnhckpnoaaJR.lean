/-
  The contracts of the draws of fields that are valid, and of codes: what is drawn lies in bounds; only the source's own block changes.
  The contracts of the draws of codes: what is drawn lies in bounds; only the source's own block changes.
  Condition: as each statement says.
-/
import Derived.Test.YtkdpkbnhckpnoaaJI
import Derived.Test.YtkdpkbnhckpnoaaCLaw
namespace Go.Proofs.Ytkdpkbnhckpnoaa
open Go.RowKit
set_option linter.unusedVariables false
set_option linter.unusedSimpArgs false

/-! The sizes that are drawn have fields. -/
def steps (mul : Nat → Nat → Nat) (a : Nat) : Nat → Nat → Bool
  | 0, x => x == 1
  | m + 1, x => x != 1 && steps mul a m (mul x a)
theorem steps_pw {mul : Nat → Nat → Nat} {a : Nat} (m j : Nat) (h : steps mul a m (pw mul a j) = true) : pw mul a (j + m) = 1 ∧ ∀ i, j ≤ i → i < j + m → pw mul a i ≠ 1 := by
  induction m generalizing j with
  | zero =>
    simp only [steps, beq_iff_eq] at h
    exact ⟨h, fun i h1 h2 => by omega⟩
  | succ m ih =>
    simp only [steps, Bool.and_eq_true, bne_iff_ne, ne_eq] at h
    have := ih (j + 1) h.2
    refine ⟨by rw [show j + (m + 1) = j + 1 + m by omega]; exact this.1, fun i h1 h2 => ?_⟩
    rcases Nat.lt_or_ge j i with h3 | h3
    · exact this.2 i h3 (by omega)
    · obtain rfl : i = j := by omega
      exact h.1
theorem steps_gen {q : Nat} {mul : Nat → Nat → Nat} (M : Mon q mul) {a : Nat} (ha : a < q) (h : steps mul a (q - 2) a = true) : gen q mul a = true := by
  have h1 : pw mul a 1 = a := pw_one M ha
  have h3 := M.three
  have := steps_pw (mul := mul) (a := a) (q - 2) 1 (by rw [h1]; exact h)
  rw [show 1 + (q - 2) = q - 1 by omega] at this
  exact gen_yes M this.1 (fun j hj h2 => this.2 j h2 hj)
theorem powG_ex {K G : Nat} (h1 : 2 ^ K ≤ G) (h2 : G < 2 ^ (K + 1)) (hG : fieldB 2 K G = true) : powG K ≠ 0 := by
  intro h0
  rcases hf : (List.range (2 ^ (K + 1))).find? (fun G : Nat => decide (2 ^ K ≤ G) && fieldB 2 K G) with _ | i
  · rw [List.find?_eq_none] at hf
    have := hf G (List.mem_range.2 h2)
    simp [h1, hG] at this
  · have hl : powG K = i := by rw [powG, hf]; rfl
    rw [List.find?_range_eq_some] at hf
    have h3 := hf.1
    simp only [Bool.and_eq_true, decide_eq_true_eq] at h3
    have : 0 < 2 ^ K := Nat.pow_pos (by decide)
    omega
theorem fo_prime {P : Nat} (h3 : 3 ≤ P) (h : P ≤ 1021) (hp : primeB P = true) : fieldB (foP P) (foK P) (foG P) = true ∧ fsize (foP P) (foK P) (foG P) = P := by
  obtain ⟨e1, e2, e3, _⟩ := fo_1 (k1_is h3 h hp)
  obtain ⟨_, _, _, _⟩ := least_spec (prime_gen h3 h hp)
  have hF : fieldB P 1 (least P (mul1 P) : Nat) = true := by rw [fieldB_1 h3 h hp]; simp
  rw [e1, e2, e3]
  exact ⟨hF, by rw [fsize, if_pos hF, sizeI, if_neg (by omega)]⟩
theorem k1_even {s : Int} {m : Nat} (hs : s = 2 * (m : Int)) (h2 : 2 ≤ m) : k1B s 1 = false := by
  rcases hh : k1B s 1 with _ | _
  · rfl
  · obtain ⟨P, rfl, _, h3, h4, hp⟩ := k1_open hh
    rw [primeB_no (d := 2) (by omega) (by omega) (by omega)] at hp
    cases hp
theorem fo_pow {K G m : Nat} (h3 : 3 ≤ K) (h8 : K ≤ 8) (hm : 2 ^ K = 2 * m) (h1 : 2 ^ K ≤ G) (h2 : G < 2 ^ (K + 1)) (hs : steps (mul2 K G) 2 (2 ^ K - 2) 2 = true) :
    fieldB (foP (2 ^ K)) (foK (2 ^ K)) (foG (2 ^ K)) = true ∧ fsize (foP (2 ^ K)) (foK (2 ^ K)) (foG (2 ^ K)) = 2 ^ K := by
  have hsm := pow_small h3 h8
  have hG : fieldB 2 K G = true := by rw [fieldB_2 h3 h8 h1 h2]; exact steps_gen (mon2 h3 h1 h2) (by omega) hs
  have hne := powG_ex h1 h2 hG
  obtain ⟨g1, g2, g3, g4⟩ := powG_spec hne
  have hk : k1B ((2 : Int) ^ K) 1 = false := k1_even (m := m) (by have : ((2 ^ K : Nat) : Int) = ((2 * m : Nat) : Int) := by rw [hm]
                                                                  push_cast at this; exact this) (by omega)
  obtain ⟨e1, e2, e3, e4⟩ := fo_2 hk (isPow_at h3 h8 rfl)
  simp only [lowP, lowK, hne, if_false] at e1 e2
  rw [e1, e2, e3]
  exact ⟨g3, by rw [fsize, if_pos g3, sizeI, if_pos rfl, Int.toNat_natCast]⟩
/-- The sizes from which the model draws. -/
def Size12 (s : Int) : Prop := s = 8 ∨ s = 16 ∨ s = 32 ∨ s = 64 ∨ s = 7 ∨ s = 11 ∨ s = 13 ∨ s = 17 ∨ s = 31 ∨ s = 256 ∨ s = 101 ∨ s = 3
set_option maxRecDepth 100000 in
theorem fo_size {s : Int} (h : Size12 s) : fieldB (foP s) (foK s) (foG s) = true ∧ fsize (foP s) (foK s) (foG s) = s := by
  rcases h with rfl | rfl | rfl | rfl | rfl | rfl | rfl | rfl | rfl | rfl | rfl | rfl
  · exact fo_pow (K := 3) (G := 11) (m := 4) (by decide) (by decide) (by decide) (by decide) (by decide) (by decide +kernel)
  · exact fo_pow (K := 4) (G := 19) (m := 8) (by decide) (by decide) (by decide) (by decide) (by decide) (by decide +kernel)
  · exact fo_pow (K := 5) (G := 37) (m := 16) (by decide) (by decide) (by decide) (by decide) (by decide) (by decide +kernel)
  · exact fo_pow (K := 6) (G := 67) (m := 32) (by decide) (by decide) (by decide) (by decide) (by decide) (by decide +kernel)
  · exact fo_prime (P := 7) (by decide) (by decide) (by decide +kernel)
  · exact fo_prime (P := 11) (by decide) (by decide) (by decide +kernel)
  · exact fo_prime (P := 13) (by decide) (by decide) (by decide +kernel)
  · exact fo_prime (P := 17) (by decide) (by decide) (by decide +kernel)
  · exact fo_prime (P := 31) (by decide) (by decide) (by decide +kernel)
  · exact fo_pow (K := 8) (G := 285) (m := 128) (by decide) (by decide) (by decide) (by decide) (by decide) (by decide +kernel)
  · exact fo_prime (P := 101) (by decide) (by decide) (by decide +kernel)
  · exact fo_prime (P := 3) (by decide) (by decide) (by decide +kernel)
theorem size_kd {p k γ s : Int} (h : fieldB p k γ = true) (hs : fsize p k γ = s) : ∃ (q : Nat) (mul : Nat → Nat → Nat), Kd p k γ q mul ∧ s = q := by
  obtain ⟨q, mul, _, hK, _⟩ := fieldB_open h
  exact ⟨q, mul, hK, by rw [← hs, fsize, if_pos h, hK.size]⟩

/-- What a draw of a valid field leaves. -/
def DrawnV (g Bc : Nat) (A : Option Addr) (n c : Nat) (code : List Int) (w : World) (x : Ending) (w' : World) : Prop :=
  ∃ (p k γ : Int) (q : Nat) (mul : Nat → Nat → Nat), x = .returned (.agg #[.int .i64 p, .int .i64 k, .int .i64 γ]) ∧ fieldB p k γ = true ∧ Kd p k γ q mul ∧ q ≤ 256 ∧ Src w' g Bc A n c code ∧ w.grownBy w' (some g)

set_option maxHeartbeats 1000000 in
theorem drawFieldV (g Bc : Nat) (A : Option Addr) (n c : Nat) (code : List Int) (w : World) (hS : Src w g Bc A n c code) :
    Calls Try.prog 92 #[.pointer (some ⟨g, 0, none⟩)] w (DrawnV g Bc A n c code w) := by
  have hgl := hS.lt
  have HS := hide ((hS.still (World.grownBy_alloc w (.cells #[.int .i64 0, .int .i64 0, .int .i64 0] 25) none) (by simp)))
  have HZ := hide (Zero3.start w)
  clear hS
  go_enter Try.func92, Try.ntmps92
  go_wp2_with fail
  refine (next_any g Bc A n c code 12 _ (HS.out.still (World.grownBy_alloc _ _ none) (by simp)) (by omega)).mono ?_
  rintro e w1 ⟨r, rfl, hr0, hr1, hs, hg⟩
  obtain ⟨r, rfl⟩ : ∃ m : Nat, r = m := ⟨r.toNat, by omega⟩
  obtain ⟨z, hz, hsz⟩ : ∃ z, w1.cell? ⟨w.heap.size + 1, r, none⟩ = some (.int .i64 z) ∧ Size12 z := by
    rw [grown_cell hg (by simp) (fun h => by simp at h; omega), World.cell?_alloc_at _ _ _ _ (by rw [alloc_size])]
    rcases (show r = 0 ∨ r = 1 ∨ r = 2 ∨ r = 3 ∨ r = 4 ∨ r = 5 ∨ r = 6 ∨ r = 7 ∨ r = 8 ∨ r = 9 ∨ r = 10 ∨ r = 11 by omega) with rfl | rfl | rfl | rfl | rfl | rfl | rfl | rfl | rfl | rfl | rfl | rfl <;> exact ⟨_, rfl, by simp [Size12]⟩
  have HSZ := hide hsz
  have HS1 := hide hs
  have HZ1 := hide ((HZ.out.alloc _).grown hg (by omega))
  have HG1 := hide (grown_trans (grown_alloc (World.grownBy_alloc w _ (some g)) _) hg)
  clear hs hg hsz
  go_wp2_with fail
  refine (specFieldOf z _).mono ?_
  rintro e w2 ⟨rfl, hb⟩
  have HS2 := hide (HS1.out.below hb HS1.out.lt)
  have HZ2 := hide (HZ1.out.below hb)
  have HG2 := hide (grown_below HG1.out hb HG1.out.size)
  obtain ⟨hfz, hfs⟩ := fo_size HSZ.out
  obtain ⟨q, mul, hK, hq⟩ := size_kd hfz hfs
  have hq256 : q ≤ 256 := by have := HSZ.out; unfold Size12 at this; omega
  have HQ := hide (And.intro hfz (And.intro hK hq256))
  clear hb hz hfz hfs hK hq hq256
  generalize foP z = p at HQ
  generalize foK z = k at HQ
  generalize foG z = γ at HQ
  have hzl := HZ2.out.lt
  obtain ⟨c0, c1, c2⟩ := HZ2.out.cells
  obtain ⟨f0, f1, f2⟩ := HZ2.out.frozen
  go_wp2_with fail
  refine bodyPost_ret (v := .agg #[.int .i64 p, .int .i64 k, .int .i64 γ]) (by simp [results, Try.results92, go_sem, c0, c1, c2, hzl]) rfl ⟨p, k, γ, q, mul, rfl, HQ.out.1, HQ.out.2.1, HQ.out.2.2, ?_, ?_⟩
  · exact (set3_src HS2.out hgl _ _ _).still (World.grownBy_alloc _ _ none) (by simp)
  · exact grown_alloc (set3_grown HG2.out _ (Nat.le_refl _) _ _ _) _
end Go.Proofs.Ytkdpkbnhckpnoaa

namespace Go.Proofs.Ytkdpkbnhckpnoaa
open Go.RowKit
set_option linter.unusedVariables false
set_option linter.unusedSimpArgs false

/-- A block that holds a code. -/
def Row5 (w : World) (N : Nat) (p k γ L C : Int) : Prop := w.heap[N]? = some (.cells #[.int .i64 p, .int .i64 k, .int .i64 γ, .int .i64 L, .int .i64 C] 43 (0, 0))
section
variable {w w' : World} {N : Nat} {p k γ L C : Int}
theorem Row5.lt (h : Row5 w N p k γ L C) : N < w.heap.size := (Array.getElem?_eq_some_iff.1 h).1
theorem Row5.src {g : Nat} (h : Row5 w N p k γ L C) (hg : w.grownBy w' (some g)) (hne : g ≠ N) : Row5 w' N p k γ L C := row_grown h hg hne
theorem Row5.below (h : Row5 w N p k γ L C) (hb : Below w.heap.size w w') : Row5 w' N p k γ L C := heap_below h hb
theorem Row5.alloc (h : Row5 w N p k γ L C) (o : Obj) : Row5 (w.alloc o) N p k γ L C := row_up h o
theorem Row5.own {row : Option Nat} (h : Row5 w N p k γ L C) (hg : w.grownBy w' row) (hr : ∀ b, row = some b → N < b) : Row5 w' N p k γ L C := by
  unfold Row5; rw [hg.block N h.lt (fun e => by have := hr _ e.symm; omega)]; exact h
theorem Row5.start (w : World) (p k γ L C : Int) : Row5 (w.alloc (.cells #[.int .i64 p, .int .i64 k, .int .i64 γ, .int .i64 L, .int .i64 C] 43)) w.heap.size p k γ L C := heap_alloc_new w _
theorem Row5.drew (h : Row5 w N p k γ L C) : Row5 w.drew N p k γ L C := h
end
theorem grown_sets {a w : World} {row : Option Nat} (h : a.grownBy w row) (N : Nat) (hN : a.heap.size ≤ N) (x0 x1 x2 x3 x4 : Value) :
    a.grownBy (((((w.setCell ⟨N, 0, none⟩ x0).setCell ⟨N, 1, none⟩ x1).setCell ⟨N, 2, none⟩ x2).setCell ⟨N, 3, none⟩ x3).setCell ⟨N, 4, none⟩ x4) row :=
  grown_set2 (grown_set2 (grown_set2 (grown_set2 (grown_set2 h N 0 _ hN) N 1 _ hN) N 2 _ hN) N 3 _ hN) N 4 _ hN
theorem src_sets {w : World} {g Bc N : Nat} {A : Option Addr} {n c : Nat} {code : List Int} (h : Src w g Bc A n c code) (hN : g < N) (x0 x1 x2 x3 x4 : Value) :
    Src (((((w.setCell ⟨N, 0, none⟩ x0).setCell ⟨N, 1, none⟩ x1).setCell ⟨N, 2, none⟩ x2).setCell ⟨N, 3, none⟩ x3).setCell ⟨N, 4, none⟩ x4) g Bc A n c code :=
  set1_src (set1_src (set1_src (set1_src (set1_src h hN 0 _) hN 1 _) hN 2 _) hN 3 _) hN 4 _

/-- What a draw of a code leaves; v tells whether its field is valid. -/
def DrawnC (v : Bool) (g Bc : Nat) (A : Option Addr) (n c : Nat) (code : List Int) (w : World) (x : Ending) (w' : World) : Prop :=
  ∃ p k γ L C : Int, x = .returned (.agg #[.int .i64 p, .int .i64 k, .int .i64 γ, .int .i64 L, .int .i64 C]) ∧ (v = true → fieldB p k γ = true ∧ 2 ≤ L ∧ 1 ≤ C) ∧ 0 ≤ L ∧ L ≤ 3000 ∧ 0 ≤ C ∧ C ≤ 3000 ∧ Src w' g Bc A n c code ∧ w.grownBy w' (some g)

/-- A field that lies in a block, and whether it is small. -/
def fsz (wr : World) (N : Nat) : Nat := match wr.heap[N]? with
  | some (Obj.cells cs _ _) => (match cs[0]?, cs[1]? with | some (Value.int _ p), some (Value.int _ k) => if sizeI p k < 5 then 1 else 0 | _, _ => 0)
  | _ => 0
theorem fsz_is {wr : World} {N : Nat} {p k γ : Int} {t : TypeId} {fr : Nat × Nat} (h : wr.heap[N]? = some (.cells #[.int .i64 p, .int .i64 k, .int .i64 γ] t fr)) : fsz wr N = if sizeI p k < 5 then 1 else 0 := by
  unfold fsz; rw [h]; rfl
theorem Src.drew' {w : World} {g Bc : Nat} {A : Option Addr} {n c : Nat} {code : List Int} (h : Src w g Bc A n c code) : Src w.drew g Bc A n c code := h
theorem grown_drew {a w : World} {row : Option Nat} (h : a.grownBy w row) : a.grownBy w.drew row := ⟨h.os, h.tape, h.output, h.size, h.block⟩
def LdRel (w : World) (g Bc : Nat) (A : Option Addr) (n c : Nat) (code : List Int) (N : Nat) (u : Value) (wr : World) : Prop :=
  ∃ (p k γ : Int) (q : Nat) (mul : Nat → Nat → Nat), wr.heap[N]? = some (.cells #[.int .i64 p, .int .i64 k, .int .i64 γ] 25 (0, 0)) ∧ Hid (fieldB p k γ = true ∧ Kd p k γ q mul ∧ q ≤ 256) ∧ Src wr g Bc A n c code ∧ Row5 wr w.heap.size 0 0 0 0 0 ∧ w.grownBy wr (some g)

end Go.Proofs.Ytkdpkbnhckpnoaa
