/-
  PayloadSize, of the model and of the program.
  Condition: the message is shorter than 2^40 bytes.
-/
import Derived.Test.YthmpfnbcodolcaaPy1
import Derived.Test.YthmpfnbcodolcaaPy2
import Derived.Test.YthmpfnbcodolcaaDp9
import Derived.Test.YthmpfnbcodolcaaTail2
namespace Go.Proofs.Ythmpfnbcodolcaa
open Go Go.RowKit
set_option linter.unusedSimpArgs false
set_option linter.unusedVariables false

/-- The best length as a number, and its bound. -/
theorem bl_nat (s : ByteArray) : ∃ L : Nat, blOf s = (L : Int) ∧ L ≤ 1130800 := by
  unfold blOf
  split
  · rename_i h
    refine ⟨_, rfl, ?_⟩
    have h2 := (ok_tab (bytesI s) s.size 0).2.1
    rw [bytesI_len] at h2
    omega
  · exact ⟨0, rfl, by omega⟩
/-- The least capacity for so many bits. -/
def capN (L W : Nat) : Nat := max 1 ((L + W - 1) / W)
def psK (W : Nat) (s : ByteArray) : Int := if lbCode s = 0 ∧ capN (blOf s).toNat W ≤ 1500 then 0 else 3
def psV (W : Nat) (s : ByteArray) : Int := if psK W s = 0 then ((capN (blOf s).toNat W : Nat) : Int) else 0
theorem ps_bad {W : Nat} {s : ByteArray} (h : ¬ (lbCode s = 0 ∧ capN (blOf s).toNat W ≤ 1500)) : psK W s = 3 ∧ psV W s = 0 := by
  have : psK W s = 3 := by unfold psK; rw [if_neg h]
  exact ⟨this, by unfold psV; rw [this]; rfl⟩
theorem ps_ok {W : Nat} {s : ByteArray} (h : lbCode s = 0 ∧ capN (blOf s).toNat W ≤ 1500) : psK W s = 0 ∧ psV W s = ((capN (blOf s).toNat W : Nat) : Int) := by
  have : psK W s = 0 := by unfold psK; rw [if_pos h]
  exact ⟨this, by unfold psV; rw [this]; rfl⟩
theorem lb_two (s : ByteArray) : lbCode s = 0 ∨ lbCode s = 3 := by unfold lbCode; split <;> simp

set_option maxRecDepth 100000 in
set_option maxHeartbeats 4000000 in
theorem implPs {p k g : Int} {q : Nat} {mul : Nat → Nat → Nat} (hb : fieldB p k g = true) (hK : Kd p k g q mul) (s : ByteArray) (hs : s.size ≤ 1099511627776) (w : World) :
    Calls Try.prog 35 #[.agg #[.int .i64 p, .int .i64 k, .int .i64 g], .string s] w (GivesII (psV (wdt q) s) (psK (wdt q) s) w) := by
  have HX := hide (Box.start w 38 p k g)
  obtain ⟨c0, c1, c2⟩ := HX.out.cells
  have HV := hide (show ∀ w, Calls Try.prog 68 #[.agg #[.int .i64 p, .int .i64 k, .int .i64 g]] w (Gives (.bool true) w) from fun w => by rw [← hb]; exact implValid p k g w)
  have HW := hide (fun w => implWd hK w)
  have HBL := hide (fun w => implBl s hs w)
  obtain ⟨hq3, hq⟩ := hK.big
  obtain ⟨hw1, hw9, _, _⟩ := wdt_is hq3 hq
  obtain ⟨L, hL, hL2⟩ := bl_nat s
  have HBAD := hide (ps_bad (W := wdt q) (s := s))
  have HOK := hide (ps_ok (W := wdt q) (s := s))
  obtain ⟨W, hW⟩ : ∃ W, wdt q = W := ⟨_, rfl⟩
  rw [hW] at HW hw1 hw9 HBAD HOK
  rw [hL] at HBL HBAD HOK
  rw [Int.toNat_natCast] at HBAD HOK
  rw [hW]
  clear hW hL
  rcases lb_two s with hlb | hlb
  · rw [hlb] at HBL HBAD HOK
    have hdm := Nat.div_le_self (L + W - 1) W
    have HCN := hide (show capN L W = max 1 ((L + W - 1) / W) from rfl)
    obtain ⟨a1, ha1⟩ : ∃ a1, L + W = a1 := ⟨_, rfl⟩
    obtain ⟨a2, ha2⟩ : ∃ a2, a1 - 1 = a2 := ⟨_, rfl⟩
    rw [ha1, ha2] at hdm HCN
    have hwa : IntKind.i64.wrap ((L : Int) + (W : Int)) = (a1 : Int) := by rw [IntWalk.i64_in _ ⟨by omega, by omega⟩]; omega
    have hws : IntKind.i64.wrap ((a1 : Int) - 1) = (a2 : Int) := by rw [IntWalk.i64_in _ ⟨by omega, by omega⟩]; omega
    have hW0 : W ≠ 0 := by omega
    have hWi : ¬ (W : Int) = 0 := by omega
    have htd : (a2 : Int).tdiv (W : Int) = ((a2 / W : Nat) : Int) := by rw [Int.tdiv_eq_ediv_of_nonneg (by omega)]; rfl
    obtain ⟨Q, hQ⟩ : ∃ Q, a2 / W = Q := ⟨_, rfl⟩
    rw [hQ] at htd hdm HCN
    have hwq : IntKind.i64.wrap (Q : Int) = (Q : Int) := IntWalk.i64_in _ ⟨by omega, by omega⟩
    have hwqt : IntKind.i64.wrap ((a2 : Int).tdiv (W : Int)) = (Q : Int) := by rw [htd]; exact hwq
    obtain ⟨M, hM⟩ : ∃ M, capN L W = M := ⟨_, rfl⟩
    rw [hM] at HBAD HOK HCN
    have HCP := hide (fun w => implCap (M : Int) w)
    have HMM := HCN
    clear hM hQ ha1 ha2 hlb
    go_enter Try.func35, Try.ntmps35
    go_wp2_with fail
    refine (HV.out _).mono ?_
    rintro e w1 ⟨rfl, hb1⟩
    have HX1 := hide (HX.out.next hb1)
    clear hb1 c0 c1 c2
    go_wp2_with fail
    refine (HBL.out _).mono ?_
    rintro e w2 ⟨rfl, hb2⟩
    have HX2 := hide (HX1.out.next hb2)
    clear hb2
    have HXd := hide HX2.out.drew
    go_wp2_with fail
    refine tail_begin (fun w' => w'.cell? ⟨w.heap.size, 0, none⟩ = some (.int .i64 p) ∧ w'.cell? ⟨w.heap.size, 1, none⟩ = some (.int .i64 k) ∧ w'.cell? ⟨w.heap.size, 2, none⟩ = some (.int .i64 g)) 10 (by kernel_rfl) HXd.out.cells (fun hS' => ?_)
    refine tail_take2 0 rfl (by kernel_rfl) (by kernel_rfl) (by kernel_rfl) (by decide) (fun _ _ _ h => h) (by rfl) (v := ?_) ?_ (by assumption) ?_
    rotate_left 1
    · intro w' hS'; obtain ⟨d0, d1, d2⟩ := hS'; go_simp; try with_reducible rfl
    try simp only [Act.put, List.setIfInBounds_toArray, List.set_cons_zero, List.set_cons_succ]
    refine tail_take2 1 rfl (by kernel_rfl) (by kernel_rfl) (by kernel_rfl) (by decide) (fun _ _ _ h => h) (by rfl) (v := ?_) ?_ (by assumption) ?_
    rotate_left 1
    · intro w' hS'; obtain ⟨d0, d1, d2⟩ := hS'; go_simp; try with_reducible rfl
    try simp only [Act.put, List.setIfInBounds_toArray, List.set_cons_zero, List.set_cons_succ]
    refine tail_take2 5 rfl (by kernel_rfl) (by kernel_rfl) (by kernel_rfl) (by decide) (fun _ _ _ h => h) (by rfl) (v := ?_) ?_ (by assumption) ?_
    rotate_left 1
    · intro w' hS'; obtain ⟨d0, d1, d2⟩ := hS'; go_simp; try with_reducible rfl
    try simp only [Act.put, List.setIfInBounds_toArray, List.set_cons_zero, List.set_cons_succ]
    refine tail_call 2 rfl (by kernel_rfl) rfl (fun K hK => ?_)
    go_simp
    (go_at_call 69; refine (HW.out _).mono ?_; rintro e w5 ⟨rfl, hb5⟩; have HX5 := hide (HXd.out.next hb5); clear hb5)
    refine hK.out _ _ (by (try dsimp only); exact HX5.out.cells) (fun hS' => ?_)
    clear hK K
    try simp only [Act.put, List.setIfInBounds_toArray, List.set_cons_zero, List.set_cons_succ]
    refine tail_take2 3 rfl (by kernel_rfl) (by kernel_rfl) (by kernel_rfl) (by decide) (fun _ _ _ h => h) (by rfl) (v := ?_) ?_ (by assumption) ?_
    rotate_left 1
    · intro w' hS'; (try dsimp only at hS'); go_simp; try with_reducible rfl
    try simp only [Act.put, List.setIfInBounds_toArray, List.set_cons_zero, List.set_cons_succ]
    refine tail_take2 4 rfl (by kernel_rfl) (by kernel_rfl) (by kernel_rfl) (by decide) (fun _ _ _ h => h) (by rfl) (v := ?_) ?_ (by assumption) ?_
    rotate_left 1
    · intro w' hS'; (try dsimp only at hS'); go_simp; try with_reducible rfl
    try simp only [Act.put, List.setIfInBounds_toArray, List.set_cons_zero, List.set_cons_succ]
    refine tail_call 6 rfl (by kernel_rfl) rfl (fun K hK => ?_)
    go_simp
    (go_at_call 69; refine (HW.out _).mono ?_; rintro e w6 ⟨rfl, hb6⟩; have HX6 := hide (HX5.out.next hb6); clear hb6)
    refine hK.out _ _ (by (try dsimp only); exact HX6.out.cells) (fun hS' => ?_)
    clear hK K
    try simp only [Act.put, List.setIfInBounds_toArray, List.set_cons_zero, List.set_cons_succ]
    refine tail_take2 7 rfl (by kernel_rfl) (by kernel_rfl) (by kernel_rfl) (by decide) (fun _ _ _ h => h) (by rfl) (v := ?_) ?_ (by assumption) ?_
    rotate_left 1
    · intro w' hS'; (try dsimp only at hS'); go_simp; try with_reducible rfl
    try simp only [Act.put, List.setIfInBounds_toArray, List.set_cons_zero, List.set_cons_succ]
    refine tail_take2 8 rfl (by kernel_rfl) (by kernel_rfl) (by kernel_rfl) (by decide) (fun _ _ _ h => h) (by rfl) (v := ?_) ?_ (by assumption) ?_
    rotate_left 1
    · intro w' hS'; (try dsimp only at hS'); go_simp; try with_reducible rfl
    try simp only [Act.put, List.setIfInBounds_toArray, List.set_cons_zero, List.set_cons_succ]
    refine tail_take2 9 rfl (by kernel_rfl) (by kernel_rfl) (by kernel_rfl) (by decide) (fun _ _ _ h => h) (by rfl) (v := ?_) ?_ (by assumption) ?_
    rotate_left 1
    · intro w' hS'; (try dsimp only at hS'); go_simp; try with_reducible rfl
    try simp only [Act.put, List.setIfInBounds_toArray, List.set_cons_zero, List.set_cons_succ]
    refine tail_end (by kernel_rfl) ?_
    clear hS'
    have hif : (if (1 : Int) < (Q : Int) then (Q : Int) else 1) = (M : Int) := by have := HMM.out; split <;> omega
    rw [hif]
    clear hif
    go_wp2_with fail
    refine (HCP.out _).mono ?_
    rintro e _ ⟨rfl, rfl⟩
    by_cases hc : M ≤ 1500
    · have hM1 : 1 ≤ M := by have := HMM.out; omega
      rw [inR_yes (by omega) (by omega)]
      have HO := hide (HOK.out ⟨by trivial, hc⟩)
      go_wp2_with fail
      go_ret2
      rw [HO.out.1, HO.out.2]
      exact ⟨rfl, HX6.out.2⟩
    · rw [inR_no (.inr (by omega))]
      have HO := hide (HBAD.out (fun h => hc h.2))
      go_wp2_with fail
      go_ret2
      rw [HO.out.1, HO.out.2]
      exact ⟨rfl, HX6.out.2⟩
  · rw [hlb] at HBL HBAD
    have HO := hide (HBAD.out (fun h => by have := h.1; omega))
    clear hlb
    go_enter Try.func35, Try.ntmps35
    go_wp2_with fail
    refine (HV.out _).mono ?_
    rintro e w1 ⟨rfl, hb1⟩
    have HX1 := hide (HX.out.next hb1)
    clear hb1 c0 c1 c2
    go_wp2_with fail
    refine (HBL.out _).mono ?_
    rintro e w2 ⟨rfl, hb2⟩
    have HX2 := hide (HX1.out.next hb2)
    clear hb2
    go_wp2_with fail
    go_ret2
    rw [HO.out.1, HO.out.2]
    exact ⟨rfl, HX2.out.2⟩

set_option maxRecDepth 100000 in
set_option maxHeartbeats 4000000 in
theorem specPs {p k g : Int} {q : Nat} {mul : Nat → Nat → Nat} (hb : fieldB p k g = true) (hK : Kd p k g q mul) (s : ByteArray) (hs : s.size ≤ 1099511627776) (w : World) :
    Calls Try.prog 34 #[.agg #[.int .i64 p, .int .i64 k, .int .i64 g], .string s] w (GivesII (psV (wdt q) s) (psK (wdt q) s) w) := by
  have HX := hide (Box.start w 38 p k g)
  obtain ⟨c0, c1, c2⟩ := HX.out.cells
  have HV := hide (show ∀ w, Calls Try.prog 66 #[.agg #[.int .i64 p, .int .i64 k, .int .i64 g]] w (Gives (.bool true) w) from fun w => by rw [← hb]; exact specIsField p k g w)
  have HW := hide (fun w => specWd hK w)
  have HBL := hide (fun w => specBl s hs w)
  obtain ⟨hq3, hq⟩ := hK.big
  obtain ⟨hw1, hw9, _, _⟩ := wdt_is hq3 hq
  obtain ⟨L, hL, hL2⟩ := bl_nat s
  have HBAD := hide (ps_bad (W := wdt q) (s := s))
  have HOK := hide (ps_ok (W := wdt q) (s := s))
  obtain ⟨W, hW⟩ : ∃ W, wdt q = W := ⟨_, rfl⟩
  rw [hW] at HW hw1 hw9 HBAD HOK
  rw [hL] at HBL HBAD HOK
  rw [Int.toNat_natCast] at HBAD HOK
  rw [hW]
  clear hW hL
  have hdm := Nat.div_le_self (L + W - 1) W
  have HCN := hide (show capN L W = max 1 ((L + W - 1) / W) from rfl)
  obtain ⟨a1, ha1⟩ : ∃ a1, L + W = a1 := ⟨_, rfl⟩
  obtain ⟨a2, ha2⟩ : ∃ a2, a1 - 1 = a2 := ⟨_, rfl⟩
  rw [ha1, ha2] at hdm HCN
  have hwa : IntKind.i64.wrap ((L : Int) + (W : Int)) = (a1 : Int) := by rw [IntWalk.i64_in _ ⟨by omega, by omega⟩]; omega
  have hws : IntKind.i64.wrap ((a1 : Int) - 1) = (a2 : Int) := by rw [IntWalk.i64_in _ ⟨by omega, by omega⟩]; omega
  have hW0 : W ≠ 0 := by omega
  have hWi : ¬ (W : Int) = 0 := by omega
  have htd : (a2 : Int).tdiv (W : Int) = ((a2 / W : Nat) : Int) := by rw [Int.tdiv_eq_ediv_of_nonneg (by omega)]; rfl
  obtain ⟨Q, hQ⟩ : ∃ Q, a2 / W = Q := ⟨_, rfl⟩
  rw [hQ] at htd hdm HCN
  have hwq : IntKind.i64.wrap (Q : Int) = (Q : Int) := IntWalk.i64_in _ ⟨by omega, by omega⟩
  have hwqt : IntKind.i64.wrap ((a2 : Int).tdiv (W : Int)) = (Q : Int) := by rw [htd]; exact hwq
  have hdv : (a2 : Int) / (W : Int) = (Q : Int) := by rw [← hQ]; rfl
  obtain ⟨M, hM⟩ : ∃ M, capN L W = M := ⟨_, rfl⟩
  rw [hM] at HBAD HOK HCN
  have hmq : (1 < Q ∧ M = Q) ∨ (¬ 1 < Q ∧ M = 1) := by have := HCN.out; omega
  obtain ⟨lb, hlbe⟩ : ∃ lb, lbCode s = lb := ⟨_, rfl⟩
  have hlb := lb_two s
  rw [hlbe] at HBL HBAD HOK hlb
  clear hM hQ ha1 ha2 hlbe
  go_enter Try.func34, Try.ntmps34
  go_wp2_with fail
  refine (HV.out _).mono ?_
  rintro e w1 ⟨rfl, hb1⟩
  have HX1 := hide (HX.out.next hb1)
  clear hb1 c0 c1 c2
  go_wp2_with fail
  refine (HBL.out _).mono ?_
  rintro e w2 ⟨rfl, hb2⟩
  have HX2 := hide (HX1.out.next hb2)
  clear hb2
  obtain ⟨c0, c1, c2⟩ := HX2.out.cells
  go_wp2_with fail
  refine (HW.out _).mono ?_
  rintro e w3 ⟨rfl, hb3⟩
  have HX3 := hide (HX2.out.next hb3)
  clear hb3 c0 c1 c2
  have hMs : ∀ h : 1 ≤ 2, True := fun _ => trivial
  clear hMs
  rcases hmq with ⟨h1, rfl⟩ | ⟨h1, rfl⟩
  · have h1i : (1 : Int) < (M : Int) := by omega
    rcases hlb with rfl | rfl
    · by_cases hc : M ≤ 1500
      · have hci : ¬ (1500 : Int) < (M : Int) := by omega
        have HO := hide (HOK.out ⟨rfl, hc⟩)
        go_wp2_with fail
        go_ret2
        rw [HO.out.1, HO.out.2]
        exact ⟨rfl, HX3.out.2⟩
      · have hci : (1500 : Int) < (M : Int) := by omega
        have HO := hide (HBAD.out (fun h => hc h.2))
        go_wp2_with fail
        go_ret2
        rw [HO.out.1, HO.out.2]
        exact ⟨rfl, HX3.out.2⟩
    · have HO := hide (HBAD.out (fun h => by have := h.1; omega))
      go_wp2_with fail
      go_ret2
      rw [HO.out.1, HO.out.2]
      exact ⟨rfl, HX3.out.2⟩
  · have h1i : ¬ (1 : Int) < (Q : Int) := by omega
    rcases hlb with rfl | rfl
    · have HO := hide (HOK.out ⟨rfl, by omega⟩)
      go_wp2_with fail
      go_ret2
      rw [HO.out.1, HO.out.2]
      exact ⟨rfl, HX3.out.2⟩
    · have HO := hide (HBAD.out (fun h => by have := h.1; omega))
      go_wp2_with fail
      go_ret2
      rw [HO.out.1, HO.out.2]
      exact ⟨rfl, HX3.out.2⟩

set_option maxRecDepth 100000 in
set_option maxHeartbeats 1000000 in
theorem ps_noS {p k g : Int} (hb : fieldB p k g = false) (s : ByteArray) (w : World) :
    Calls Try.prog 34 #[.agg #[.int .i64 p, .int .i64 k, .int .i64 g], .string s] w (GivesII 0 1 w) := by
  have HX := hide (Box.start w 38 p k g)
  obtain ⟨c0, c1, c2⟩ := HX.out.cells
  have HV := hide (show ∀ w, Calls Try.prog 66 #[.agg #[.int .i64 p, .int .i64 k, .int .i64 g]] w (Gives (.bool false) w) from fun w => by rw [← hb]; exact specIsField p k g w)
  go_enter Try.func34, Try.ntmps34
  go_wp2_with fail
  refine (HV.out _).mono ?_
  rintro e w1 ⟨rfl, hb1⟩
  have HX1 := hide (HX.out.next hb1)
  clear hb1 c0 c1 c2
  go_wp2_with fail
  go_ret2
  exact ⟨rfl, HX1.out.2⟩

set_option maxRecDepth 100000 in
set_option maxHeartbeats 1000000 in
theorem ps_noI {p k g : Int} (hb : fieldB p k g = false) (s : ByteArray) (w : World) :
    Calls Try.prog 35 #[.agg #[.int .i64 p, .int .i64 k, .int .i64 g], .string s] w (GivesII 0 1 w) := by
  have HX := hide (Box.start w 38 p k g)
  obtain ⟨c0, c1, c2⟩ := HX.out.cells
  have HV := hide (show ∀ w, Calls Try.prog 68 #[.agg #[.int .i64 p, .int .i64 k, .int .i64 g]] w (Gives (.bool false) w) from fun w => by rw [← hb]; exact implValid p k g w)
  go_enter Try.func35, Try.ntmps35
  go_wp2_with fail
  refine (HV.out _).mono ?_
  rintro e w1 ⟨rfl, hb1⟩
  have HX1 := hide (HX.out.next hb1)
  clear hb1 c0 c1 c2
  go_wp2_with fail
  go_ret2
  exact ⟨rfl, HX1.out.2⟩

/-- PayloadSize, of both. -/
theorem ps_both (p k g : Int) (s : ByteArray) (hs : s.size ≤ 1099511627776) : ∃ (v c : Int),
    (∀ w, Calls Try.prog 34 #[.agg #[.int .i64 p, .int .i64 k, .int .i64 g], .string s] w (GivesII v c w)) ∧
    (∀ w, Calls Try.prog 35 #[.agg #[.int .i64 p, .int .i64 k, .int .i64 g], .string s] w (GivesII v c w)) := by
  rcases hb : fieldB p k g with _ | _
  · exact ⟨0, 1, fun w => ps_noS hb s w, fun w => ps_noI hb s w⟩
  · obtain ⟨q, mul, γ, hK, _⟩ := fieldB_open hb
    exact ⟨_, _, fun w => specPs hb hK s hs w, fun w => implPs hb hK s hs w⟩
end Go.Proofs.Ythmpfnbcodolcaa
