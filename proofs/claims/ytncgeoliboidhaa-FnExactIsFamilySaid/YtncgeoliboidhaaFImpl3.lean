/-
  The contracts of the program's functions that tell whether a field is valid, and of IsField and FieldSize.
  Condition: none.
-/
import Derived.Test.YtncgeoliboidhaaFImpl2
import Derived.Test.YtncgeoliboidhaaFValid
namespace Go.Proofs.Ytncgeoliboidhaa
open Go.RowKit
set_option linter.unusedSimpArgs false

set_option maxHeartbeats 400000 in
theorem implFirst (p k g : Int) (w : World) :
    Calls Try.prog 85 #[.agg #[.int .i64 p, .int .i64 k, .int .i64 g]] w (Gives (.bool (k1B p k)) w) := by
  have HX := hide (Box.start w 29 p k g)
  by_cases h1 : k = 1
  · subst h1
    by_cases h2 : 3 ≤ p
    · by_cases h3 : p ≤ 1021
      · obtain ⟨P, rfl⟩ : ∃ P : Nat, p = P := ⟨p.toNat, by omega⟩
        have HF := hide (show k1B P 1 = primeB P by
          have : decide ((1 : Int) = 1 ∧ 3 ≤ (P : Int) ∧ (P : Int) ≤ 1021) = true := by simp; omega
          rw [k1B, this, Int.toNat_natCast]; rfl)
        go_enter Try.func85, Try.ntmps85
        go_wp2_with fail
        refine (implPrime P (by omega) _).mono ?_
        rintro e w1 ⟨rfl, rfl⟩
        go_wp2_with fail
        go_ret
        exact ⟨ret_bool HF, HX.out.2⟩
      · have HF := hide (show k1B p 1 = false by rw [k1B, Bool.and_eq_false_iff]; left; simp; omega)
        have h3' : decide (p ≤ 1021) = false := by simpa using h3
        go_enter Try.func85, Try.ntmps85
        go_wp2_with fail
        go_ret
        exact ⟨ret_bool HF, HX.out.2⟩
    · have HF := hide (show k1B p 1 = false by rw [k1B, Bool.and_eq_false_iff]; left; simp; omega)
      have h2' : decide (3 ≤ p) = false := by simpa using h2
      go_enter Try.func85, Try.ntmps85
      go_wp2_with fail
      go_ret
      exact ⟨ret_bool HF, HX.out.2⟩
  · have HF := hide (show k1B p k = false by rw [k1B, Bool.and_eq_false_iff]; left; simp; omega)
    have h1' : (k == 1) = false := by simpa using h1
    go_enter Try.func85, Try.ntmps85
    go_wp2_with fail
    go_ret
    exact ⟨ret_bool HF, HX.out.2⟩

theorem div_one {g : Int} {K : Nat} : (g / 2 ^ K == 1) = decide (2 ^ K ≤ g ∧ g < 2 ^ (K + 1)) := by
  have hp : (0 : Int) < 2 ^ K := Int.pow_pos (by decide)
  rw [Bool.eq_iff_iff, beq_iff_eq, decide_eq_true_eq, Int.pow_succ]
  generalize (2 : Int) ^ K = d at hp
  constructor
  · intro h
    have h1 := Int.ediv_mul_le g (b := d) (by omega)
    have h2 := Int.lt_ediv_add_one_mul_self g hp
    rw [h] at h1 h2
    omega
  · rintro ⟨h1, h2⟩
    have h3 : 1 ≤ g / d := (Int.le_ediv_iff_mul_le hp).2 (by omega)
    have h4 : g / d < 2 := (Int.ediv_lt_iff_lt_mul hp).2 (by omega)
    omega

set_option maxHeartbeats 400000 in
theorem implSecond (p k g : Int) (w : World) :
    Calls Try.prog 87 #[.agg #[.int .i64 p, .int .i64 k, .int .i64 g]] w (Gives (.bool (k2B p k g)) w) := by
  have HX := hide (Box.start w 29 p k g)
  by_cases h1 : p = 2
  · subst h1
    by_cases h2 : 3 ≤ k
    · by_cases h3 : k ≤ 8
      · obtain ⟨K, rfl⟩ : ∃ K : Nat, k = K := ⟨k.toNat, by omega⟩
        have HF := hide (show k2B 2 K g = (g / 2 ^ K == 1) by
          rw [div_one, k2B, Int.toNat_natCast, decide_eq_decide]
          exact ⟨fun h => ⟨h.2.2.2.1, h.2.2.2.2⟩, fun h => ⟨rfl, h2, h3, h.1, h.2⟩⟩)
        go_enter Try.func87, Try.ntmps87
        go_wp2_with fail
        go_ret
        exact ⟨ret_bool HF, HX.out.2⟩
      · have HF := hide (show k2B 2 k g = false by rw [k2B, decide_eq_false_iff_not]; omega)
        have h3' : decide (k ≤ 8) = false := by simpa using h3
        go_enter Try.func87, Try.ntmps87
        go_wp2_with fail
        go_ret
        exact ⟨ret_bool HF, HX.out.2⟩
    · have HF := hide (show k2B 2 k g = false by rw [k2B, decide_eq_false_iff_not]; omega)
      have h2' : decide (3 ≤ k) = false := by simpa using h2
      go_enter Try.func87, Try.ntmps87
      go_wp2_with fail
      go_ret
      exact ⟨ret_bool HF, HX.out.2⟩
  · have HF := hide (show k2B p k g = false by rw [k2B, decide_eq_false_iff_not]; omega)
    have h1' : (p == 2) = false := by simpa using h1
    go_enter Try.func87, Try.ntmps87
    go_wp2_with fail
    go_ret
    exact ⟨ret_bool HF, HX.out.2⟩

set_option maxHeartbeats 1000000 in
theorem implValid (p k g : Int) (w : World) :
    Calls Try.prog 58 #[.agg #[.int .i64 p, .int .i64 k, .int .i64 g]] w (Gives (.bool (fieldB p k g)) w) := by
  have HX := hide (Box.start w 29 p k g)
  rcases h1 : k1B p k with _ | _
  · rcases h2 : k2B p k g with _ | _
    · have HF := hide (fieldB_0 h1 h2)
      go_enter Try.func58, Try.ntmps58
      go_wp2_with fail
      refine (implFirst p k g _).mono ?_
      rintro e w1 ⟨rfl, hb⟩
      have HX1 := hide (HX.out.next hb)
      obtain ⟨c0, c1, c2⟩ := HX1.out.cells
      clear hb
      go_wp2_with fail
      refine (implSecond p k g _).mono ?_
      rintro e w2 ⟨rfl, hb⟩
      have HX2 := hide (HX1.out.next hb)
      clear hb c0 c1 c2
      go_wp2_with fail
      go_ret
      exact ⟨ret_bool HF, HX2.out.2⟩
    · obtain ⟨K, G, rfl, rfl, rfl, h3, h8, hG, hG2⟩ := k2_open h2
      have HF := hide (fieldB_2 h3 h8 hG hG2)
      have HK := Kd.two K G h3 h8 hG hG2
      have h2q : 2 < 2 ^ K := by have := pow_small h3 h8; omega
      clear hG hG2
      go_enter Try.func58, Try.ntmps58
      go_wp2_with fail
      refine (implFirst _ _ _ _).mono ?_
      rintro e w1 ⟨rfl, hb⟩
      have HX1 := hide (HX.out.next hb)
      obtain ⟨c0, c1, c2⟩ := HX1.out.cells
      clear hb
      go_wp2_with fail
      refine (implSecond _ _ _ _).mono ?_
      rintro e w2 ⟨rfl, hb⟩
      have HX2 := hide (HX1.out.next hb)
      clear hb c0 c1 c2
      obtain ⟨c0, c1, c2⟩ := HX2.out.cells
      go_wp2_with fail
      refine (implGen HK 2 h2q _).mono ?_
      rintro e w3 ⟨rfl, hb⟩
      have HX3 := hide (HX2.out.next hb)
      clear hb c0 c1 c2
      go_wp2_with fail
      go_ret
      exact ⟨ret_bool HF, HX3.out.2⟩
  · obtain ⟨P, rfl, rfl, h3, h4, hp⟩ := k1_open h1
    have HF := hide (fieldB_1 (g := g) h3 h4 hp)
    clear hp
    go_enter Try.func58, Try.ntmps58
    go_wp2_with fail
    refine (implFirst _ _ _ _).mono ?_
    rintro e w1 ⟨rfl, hb⟩
    have HX1 := hide (HX.out.next hb)
    obtain ⟨c0, c1, c2⟩ := HX1.out.cells
    clear hb
    go_wp2_with fail
    have HC0 := hide c0
    have HC1 := hide c1
    have HC2 := hide c2
    go_region_held3 (fun w' => w'.cell? ⟨w.heap.size, 0, none⟩ = some (.int .i64 (P : Int)) ∧ w'.cell? ⟨w.heap.size, 1, none⟩ = some (.int .i64 1) ∧ w'.cell? ⟨w.heap.size, 2, none⟩ = some (.int .i64 g) ∧ Box w w' 29 P 1 g)
      (first
        | exact ⟨HC0.out, HC1.out, HC2.out, HX1.out.drew⟩
        | (go_split_ands; refine ⟨?_, ?_, ?_, ?_⟩ <;> assumption)
        | exact ⟨HX2.out.cells.1, HX2.out.cells.2.1, HX2.out.cells.2.2, HX2.out⟩)
      (first | (go_at_call 86; refine (implLeast P g h3 h4 _).mono ?_; rintro e w2 ⟨rfl, hb⟩; have HX2 := hide (HX1.out.drew.next hb); clear hb))
    go_wp2_with fail
    go_ret
    exact ⟨ret_bool (by rw [HF.out, Bool.eq_iff_iff]; simp), HX2.out.2⟩
end Go.Proofs.Ytncgeoliboidhaa
