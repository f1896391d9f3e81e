/-
  FormatWord, of the program and of the model.
  Condition: none.
-/
import Derived.Test.YtkaconpbmppekaaWd3
namespace Go.Proofs.Ytkaconpbmppekaa
open Go.RowKit
set_option linter.unusedSimpArgs false
set_option linter.unusedVariables false

/-- What FormatWord gives. -/
theorem fw_cases (d l p v : Int) : (fcB d l p = false ∧ fwCode d l p v = 1) ∨ (∃ D L P K : Nat, d = D ∧ l = L ∧ p = P ∧ FcIs D L P K ∧ inR v 0 (2 ^ D - 1) = false ∧ fwCode d l p v = 2) ∨
    (∃ D L P K V : Nat, d = D ∧ l = L ∧ p = P ∧ v = V ∧ FcIs D L P K ∧ V < 2 ^ D ∧ fwCode d l p v = 0) := by
  rcases h : fcB d l p with _ | _
  · exact .inl ⟨rfl, by simp [fwCode, h]⟩
  · obtain ⟨D, L, P, K, rfl, rfl, rfl, hf⟩ := fcB_open h
    rcases hv : inR v 0 (2 ^ D - 1) with _ | _
    · exact .inr (.inl ⟨D, L, P, K, rfl, rfl, rfl, hf, hv, by simp [fwCode, h, hv]⟩)
    · have hb : 0 ≤ v ∧ v ≤ 2 ^ D - 1 := by simpa [inR] using hv
      refine .inr (.inr ⟨D, L, P, K, v.toNat, rfl, rfl, rfl, by omega, hf, ?_, by simp [fwCode, h, hv]⟩)
      have : (v.toNat : Int) < ((2 ^ D : Nat) : Int) := by push_cast; omega
      exact Int.ofNat_lt.1 this
theorem in_word {V D : Nat} (h : V < 2 ^ D) : inR (V : Int) 0 (2 ^ D - 1) = true := by
  refine inR_yes (by omega) ?_
  have := Int.ofNat_lt.2 h
  push_cast at this
  omega
theorem new2_of {r : List Int} {c : Int} {w w' : World} {v : Value} {base : Nat} (h : Own w' base 2 .i64 v r) (hb : Below w.heap.size w w') (hB : w.heap.size ≤ base) : NewInts2 2 .i64 r c w (.returned (.tuple #[v, .int .i64 c])) w' := by
  obtain ⟨A, m, rfl, hc⟩ := h.form
  exact ⟨A, m, rfl, hc, h.low hB, hb⟩
theorem new2_nil' {c : Int} {w w' : World} (hb : Below w.heap.size w w') : NewInts2 2 .i64 [] c w (.returned (.tuple #[.slice none 0 0, .int .i64 c])) w' :=
  ⟨none, 0, rfl, Nat.le_refl _, nilOwn _ _ _ _, hb⟩

set_option maxRecDepth 100000 in
set_option maxHeartbeats 4000000 in
theorem implFw_bad (d l p v : Int) (h : fcB d l p = false) (w : World) :
    Calls Try.prog 14 #[.agg #[.int .i64 d, .int .i64 l, .int .i64 p], .int .i64 v] w (NewInts2 2 .i64 [] 1 w) := by
  have HX := hide (Box.start w 25 d l p)
  have HV := hide (fun w' => implFcValid d l p w')
  rw [h] at HV
  clear h
  go_enter Try.func14, Try.ntmps14
  go_wp2_with fail
  refine (HV.out _).mono ?_
  rintro e w1 ⟨rfl, hb⟩
  have HX1 := hide (HX.out.next hb)
  clear hb
  go_wp2_with fail
  go_ret2
  exact new2_nil' HX1.out.2
set_option maxRecDepth 100000 in
set_option maxHeartbeats 4000000 in
theorem implFw_out {D L P K : Nat} (h : FcIs D L P K) (v : Int) (hv : inR v 0 (2 ^ D - 1) = false) (w : World) :
    Calls Try.prog 14 #[.agg #[.int .i64 D, .int .i64 L, .int .i64 P], .int .i64 v] w (NewInts2 2 .i64 [] 2 w) := by
  have HX := hide (Box.start w 25 D L P)
  have HV := hide (fun w' => implFcValid D L P w')
  rw [fcB_of h] at HV
  have hD := h.d8
  have HI := hide hv
  clear h hv
  go_enter Try.func14, Try.ntmps14
  go_wp2_with fail
  refine (HV.out _).mono ?_
  rintro e w1 ⟨rfl, hb⟩
  have HX1 := hide (HX.out.next hb)
  obtain ⟨c0, c1, c2⟩ := HX1.out.cells
  clear hb
  go_wp2_with fail
  refine (implFits_is v D false _ (by omega) HI).mono ?_
  rintro e w1 ⟨rfl, rfl⟩
  go_wp2_with fail
  go_ret2
  exact new2_nil' HX1.out.2
set_option maxRecDepth 100000 in
set_option maxHeartbeats 4000000 in
theorem implFw_ok {D L P K : Nat} (h : FcIs D L P K) (v : Nat) (hv : v < 2 ^ D) (w : World) :
    Calls Try.prog 14 #[.agg #[.int .i64 D, .int .i64 L, .int .i64 P], .int .i64 v] w (NewInts2 2 .i64 (bitsOf (wordF D K P v : Nat) L) 0 w) := by
  have HX := hide (Box.start w 25 D L P)
  have HV := hide (fun w' => implFcValid D L P w')
  rw [fcB_of h] at HV
  have hD := h.d8
  have hL := h.l24
  have HI := hide (in_word hv)
  have HW := hide (fun w' => implWord h v hv w')
  have hx := Nat.lt_of_lt_of_le (h.w24 hv) (pow24 hL)
  obtain ⟨x, hxx⟩ : ∃ x, wordF D K P v = x := ⟨_, rfl⟩
  rw [hxx] at HW hx ⊢
  clear h hv hxx
  go_enter Try.func14, Try.ntmps14
  go_wp2_with fail
  refine (HV.out _).mono ?_
  rintro e w1 ⟨rfl, hb⟩
  have HX1 := hide (HX.out.next hb)
  obtain ⟨c0, c1, c2⟩ := HX1.out.cells
  clear hb
  go_wp2_with fail
  refine (implFits_is v D true _ (by omega) HI).mono ?_
  rintro e w1 ⟨rfl, rfl⟩
  go_wp2_with fail
  go_region_held3 (fun w' => w'.cell? ⟨w.heap.size, 0, none⟩ = some (.int .i64 D) ∧ w'.cell? ⟨w.heap.size, 1, none⟩ = some (.int .i64 L) ∧ w'.cell? ⟨w.heap.size, 2, none⟩ = some (.int .i64 P))
    (first
      | exact HX1.out.drew.cells
      | exact HX2.out.cells
      | exact HX3.out.cells)
    (first
      | (go_at_call 47; refine (HW.out _).mono ?_; rintro e w2 ⟨rfl, hb⟩; have HX2 := hide (HX1.out.drew.next hb); clear hb)
      | (go_at_call 46; refine (implAppendNumber (.slice none 0 0) w2.heap.size L [] x w2 (nilOwn _ _ _ _) (Nat.le_refl _) (by simp) (by omega) (by omega) (by omega)).mono ?_; rintro e w3 ⟨v3, rfl, hown, hb⟩; have HX3 := hide (HX2.out.next hb); have HO3 := hide (hown.low (base' := w.heap.size) (Nat.le_of_lt HX2.out.lt)); clear hb hown))
  go_wp2_with fail
  go_ret2
  exact new2_of HO3.out HX3.out.2 (Nat.le_refl _)

set_option maxRecDepth 100000 in
set_option maxHeartbeats 4000000 in
theorem specFw_bad (d l p v : Int) (hl : -9223372036854775808 ≤ l) (h : fcB d l p = false) (w : World) :
    Calls Try.prog 15 #[.agg #[.int .i64 d, .int .i64 l, .int .i64 p], .int .i64 v] w (NewInts2 2 .i64 [] 1 w) := by
  have HX := hide (Box.start w 25 d l p)
  have HV := hide (fun w' => specFcIs d l p hl w')
  rw [h] at HV
  clear h
  go_enter Try.func15, Try.ntmps15
  go_wp2_with fail
  refine (HV.out _).mono ?_
  rintro e w1 ⟨rfl, hb⟩
  have HX1 := hide (HX.out.next hb)
  clear hb
  go_wp2_with fail
  go_ret2
  exact new2_nil' HX1.out.2
set_option maxRecDepth 100000 in
set_option maxHeartbeats 4000000 in
theorem specFw_out {D L P K : Nat} (h : FcIs D L P K) (v : Int) (hv : inR v 0 (2 ^ D - 1) = false) (w : World) :
    Calls Try.prog 15 #[.agg #[.int .i64 D, .int .i64 L, .int .i64 P], .int .i64 v] w (NewInts2 2 .i64 [] 2 w) := by
  have HX := hide (Box.start w 25 D L P)
  have HV := hide (fun w' => specFcIs D L P (by omega) w')
  rw [fcB_of h] at HV
  have hD := h.d8
  obtain ⟨pw, hpw, he, hp1, hp2⟩ := pow_fits D (by omega)
  rw [← he] at hv
  have HI := hide hv
  have hcv : IntKind.u64.wrap (D : Int) = (D : Int) := by rw [IntKind.wrap_u64]; omega
  clear h hv he
  go_enter Try.func15, Try.ntmps15
  go_wp2_with fail
  refine (HV.out _).mono ?_
  rintro e w1 ⟨rfl, hb⟩
  have HX1 := hide (HX.out.next hb)
  obtain ⟨c0, c1, c2⟩ := HX1.out.cells
  clear hb
  go_wp2_with fail
  refine (specIn_is v 0 (pw - 1) false _ HI).mono ?_
  rintro e w1 ⟨rfl, rfl⟩
  go_wp2_with fail
  go_ret2
  exact new2_nil' HX1.out.2
set_option maxRecDepth 100000 in
set_option maxHeartbeats 4000000 in
theorem specFw_ok {D L P K : Nat} (h : FcIs D L P K) (v : Nat) (hv : v < 2 ^ D) (w : World) :
    Calls Try.prog 15 #[.agg #[.int .i64 D, .int .i64 L, .int .i64 P], .int .i64 v] w (NewInts2 2 .i64 (bitsOf (wordF D K P v : Nat) L) 0 w) := by
  have HX := hide (Box.start w 25 D L P)
  have HV := hide (fun w' => specFcIs D L P (by omega) w')
  rw [fcB_of h] at HV
  have hD := h.d8
  obtain ⟨pw, hpw, he, hp1, hp2⟩ := pow_fits D (by omega)
  have hv2 := in_word hv
  rw [← he] at hv2
  have HI := hide hv2
  have HW := hide (fun w' => specWord h v hv w')
  have hcv : IntKind.u64.wrap (D : Int) = (D : Int) := by rw [IntKind.wrap_u64]; omega
  clear h hv hv2 he
  go_enter Try.func15, Try.ntmps15
  go_wp2_with fail
  refine (HV.out _).mono ?_
  rintro e w1 ⟨rfl, hb⟩
  have HX1 := hide (HX.out.next hb)
  obtain ⟨c0, c1, c2⟩ := HX1.out.cells
  clear hb
  go_wp2_with fail
  refine (specIn_is v 0 (pw - 1) true _ HI).mono ?_
  rintro e w1 ⟨rfl, rfl⟩
  go_wp2_with fail
  refine (HW.out _).mono ?_
  rintro e w2 ⟨A2, m2, rfl, hm2, hown, hb⟩
  have HX2 := hide (HX1.out.next hb)
  have HO2 := hide (hown.low (base' := w.heap.size) (Nat.le_of_lt HX1.out.lt))
  clear hb hown
  go_wp2_with fail
  go_ret2
  exact new2_of HO2.out HX2.out.2 (Nat.le_refl _)

theorem fw_both (d l p v : Int) (hl : -9223372036854775808 ≤ l ∧ l ≤ 9223372036854775807) :
    ∃ (r : List Int) (k : Int), r.length ≤ 1099511627776 ∧ V0i 15 d l p v (NewInts2 2 .i64 r k) ∧ V0i 14 d l p v (NewInts2 2 .i64 r k) := by
  rcases fw_cases d l p v with ⟨h, _⟩ | ⟨D, L, P, K, rfl, rfl, rfl, h, hv, _⟩ | ⟨D, L, P, K, V, rfl, rfl, rfl, rfl, h, hv, _⟩
  · exact ⟨_, _, by simp, fun w => specFw_bad d l p v hl.1 h w, fun w => implFw_bad d l p v h w⟩
  · exact ⟨_, _, by simp, fun w => specFw_out h v hv w, fun w => implFw_out h v hv w⟩
  · exact ⟨_, _, by have := h.l24; rw [bitsOf_len]; omega, fun w => specFw_ok h V hv w, fun w => implFw_ok h V hv w⟩
end Go.Proofs.Ytkaconpbmppekaa
