/-
  The texts of the parts of a message, of the program.
  SplitMessage, of the program.
  SplitMessage, of the model.
  SplitMessage, both: the same parts and the same code.
  Condition: as each statement says.
-/
import Derived.Test.YthbmfaogjaahoaaTA
import Derived.Test.YthbmfaogjaahoaaMatT
import Derived.Test.YthbmfaogjaahoaaPG
import Derived.Test.YthbmfaogjaahoaaRA
import Derived.Test.YthbmfaogjaahoaaTE
namespace Go.Proofs.Ythbmfaogjaahoaa
open Go Go.RowKit
set_option linter.unusedSimpArgs false
set_option linter.unusedVariables false

/-- append(texts, text), in a list of operations. -/
theorem wpList_appT {P : Program} (hP : P = Try.prog) {base : Nat} {v : Value} {ts : List ByteArray} (w : World) {ops : Array Oper} {rest : List Oper} {o : Oper} {a : Act} {Q : Exit → Act → World → Prop} (hgd : o.guard = none) (s x : Operand)
    (ho : o.op = .call { callee := .builtin .append, args := #[s, x], argTypes := #[81, 81] })
    (hs : a.eval s = v) (h : OwnT w base v ts) (y : ByteArray) (hx : a.eval x = .slice (some ⟨w.heap.size, 0, none⟩) 1 1) (hlen : (ts.length + 1) * 16 ≤ 140737488355328) (hbase : base ≤ w.heap.size)
    (hk : ∀ u w', OwnT w' base u (ts ++ [y]) → w.grownBy w' v.ownBlock → wpList P ops Q rest (a.put o.dst u) w') :
    wpList P ops Q (o :: rest) a (w.alloc (.cells #[.string y] 9)) := by
  subst hP
  refine wpList_step fun K hK => ?_
  rw [if_pos (by simp [Region.wanted, hgd])]
  exact wp_appT w s x ho hs h y hx hlen hbase (fun v' w' h1 h2 _ => hK _ _ (hk v' w' h1 h2))

/-- The first k texts. -/
def xpL (s : ByteArray) (r : Int) (k : Nat) : List ByteArray := (List.range k).map (xpT s r)
theorem xpL_len (s : ByteArray) (r : Int) (k : Nat) : (xpL s r k).length = k := by simp [xpL]
theorem xpL_step (s : ByteArray) (r : Int) (k : Nat) : xpL s r k ++ [xpT s r k] = xpL s r (k + 1) := by simp [xpL, List.range_succ]
theorem xpL_at (s : ByteArray) (r : Int) {k n : Nat} (h : k < n) : (xpL s r n)[k]? = some (xpT s r k) := by unfold xpL; rw [List.getElem?_map, List.getElem?_range h]; rfl
theorem OwnT.low {w : World} {base base' : Nat} {v : Value} {ts : List ByteArray} (h : OwnT w base v ts) (hb : base' ≤ base) : OwnT w base' v ts := by
  refine ⟨h.1, ?_⟩
  rcases h.2 with h0 | ⟨g, cap, cur, h1, h2, h3⟩
  · exact .inl h0
  · exact .inr ⟨g, cap, cur, h1, Nat.le_trans hb h2, h3⟩
/-- What textsWithin leaves. -/
def TwPost (s : ByteArray) (r : Int) (w : World) (x : Ending) (w' : World) : Prop :=
  (∃ n v, xpN s r = some n ∧ x = .returned (.tuple #[v, .bool true]) ∧ OwnT w' w.heap.size v (xpL s r n) ∧ Below w.heap.size w w') ∨
  (xpN s r = none ∧ x = .returned (.tuple #[.slice none 0 0, .bool false]) ∧ Below w.heap.size w w')
def TwRel (s : ByteArray) (r : Int) (w : World) (u v : Value) (wr : World) : Prop :=
  ∃ k : Nat, v = .string (xpR s r k) ∧ k ≤ 8 ∧ (0 < k ∨ 0 < s.size) ∧ xpN s r = xpG s r (9 - k) k ∧ OwnT wr w.heap.size u (xpL s r k) ∧ Below w.heap.size w wr
theorem str_some {s : ByteArray} (h : 0 < s.size) : s.toList.isEmpty = false := by
  have h2 : 0 < s.data.size := h
  rw [Go.ByteArray.toList_eq, List.isEmpty_eq_false_iff]
  intro h1
  rw [Array.toList_eq_nil_iff] at h1
  rw [h1] at h2; exact absurd h2 (by decide)
theorem str_none {s : ByteArray} (h : s.size = 0) : s.toList.isEmpty = true := by
  have h2 : s.data.size = 0 := h
  rw [Go.ByteArray.toList_eq, Array.eq_empty_of_size_eq_zero h2]; rfl
set_option maxRecDepth 100000 in
set_option maxHeartbeats 2000000 in
theorem implTexts (s : ByteArray) (hs : s.size ≤ 400) (r : Int) (hr : 0 ≤ r) (w : World) :
    Calls Try.prog 59 #[.string s, .int .i64 r] w (TwPost s r w) := by
  have HR := hide hr
  have HS := hide hs
  clear hr
  by_cases h0 : s = ByteArray.empty
  · subst h0
    obtain ⟨n1, n2⟩ := xpN_empty (r := r)
    have HN := hide n1
    have HF := hide (show OwnT (w.alloc (.cells #[.string ByteArray.empty] 9)) w.heap.size (.slice (some ⟨w.heap.size, 0, none⟩) 1 1) (xpL ByteArray.empty r 1) by
      have h := World.ownsRow_lit (base := w.heap.size) (e := 9) (size := 1) w #[.string ByteArray.empty] 1 (Nat.le_refl _) (by decide) rfl
      unfold OwnT
      rw [show xpL ByteArray.empty r 1 = [ByteArray.empty] by simp [xpL, n2]]
      exact h)
    clear n1 n2
    go_enter Try.func59, Try.ntmps59
    go_wp2_with fail
    go_ret2
    exact .inl ⟨1, _, HN.out, rfl, HF.out, (Below.refl _ _).alloc (Nat.le_refl _) _⟩
  · have hpos : 0 < s.size := by
      rcases Nat.eq_zero_or_pos s.size with h | h
      · exact absurd (ByteArray.ext (Array.eq_empty_of_size_eq_zero h)) h0
      · exact h
    have HP := hide hpos
    have he := str_some hpos
    have HL := hide (fun q hq => implLongest q hq r HR.out)
    clear h0 hpos
    go_enter Try.func59, Try.ntmps59
    go_wp2_with fail
    clear he
    go_loopw [6, 7] (fun u v wr => TwRel s r w u v wr) (fun _ v _ => match v with | .string q => q.size | _ => 0)
    case atStart => exact ⟨0, by rw [xpR_zero], by omega, .inr HP.out, rfl, OwnT.nil _ _, Below.refl _ _⟩
    case round =>
      obtain ⟨k, rfl, hk8, hk0, hG, hO, hB⟩ := hrel
      have HK0 := hide hk0
      have HG := hide hG
      have HO := hide hO
      have HB := hide hB
      obtain ⟨A, c, hu, hc⟩ := hO.form
      rw [xpL_len] at hu hc
      subst hu
      clear hO hB hG hk0
      have hRs : (xpR s r k).size ≤ 400 := by rw [xpR_size]; omega
      have HE := hide (xpT_eq s r k)
      have HE2 := hide (xpR_next s r k)
      have hml := lg_le (xpR s r k) r
      have HQ := hide (show k = 0 → 0 < (xpR s r k).size by intro e; subst e; rw [xpR_zero]; exact HP.out)
      have HD := hide (show (xpR s r k).size = 0 → xpN s r = some k by
        intro h
        have hk1 : 0 < k := by
          rcases Nat.eq_zero_or_pos k with e | e
          · have := HQ.out e; omega
          · exact e
        rw [HG.out, show 9 - k = (8 - k) + 1 by omega, xpG_done hk1 h])
      have HST := hide (show 0 < (xpR s r k).size → (lg (xpR s r k) r = 0 ∨ k = 8) → xpN s r = none by
        intro h1 h2
        rw [HG.out, show 9 - k = (8 - k) + 1 by omega, xpG_stop (.inr h1) (by omega)])
      have HON := hide (show 0 < (xpR s r k).size → 0 < lg (xpR s r k) r → k ≠ 8 → xpN s r = xpG s r (9 - (k + 1)) (k + 1) by
        intro h1 h2 h3
        rw [HG.out, show 9 - k = (8 - k) + 1 by omega, xpG_on (.inr h1) ⟨.inl h2, h3⟩, show 9 - (k + 1) = 8 - k by omega])
      have HNR := hide (show (xpR s r (k + 1)).size = (xpR s r k).size - lg (xpR s r k) r by rw [xpR_size, xpR_size, xpP_succ]; omega)
      obtain ⟨R, hR⟩ : ∃ R, xpR s r k = R := ⟨_, rfl⟩
      rw [hR] at hRs HE HE2 hml HQ HD HST HON HNR
      rw [hR]
      obtain ⟨m, hm⟩ : ∃ m, lg R r = m := ⟨_, rfl⟩
      have HLR := hide (HL.out R hRs)
      rw [hm] at HE HE2 hml HST HON HNR HLR
      clear hR hm
      by_cases hz : R.size = 0
      · have he := str_none hz
        have HDD := hide (HD.out hz)
        clear HD HST HON HE HE2 HLR HNR hml
        go_wp2_with fail
        go_ret2
        exact .inl ⟨k, _, HDD.out, rfl, HO.out, HB.out⟩
      · have hpos : 0 < R.size := by omega
        have he := str_some hpos
        clear HD hz
        go_wp2_with fail
        refine (HLR.out _).mono ?_
        rintro e w1 ⟨rfl, hw1⟩
        have HO1 := hide (HO.out.below hw1 (Nat.le_refl _))
        have HB1 := hide (HB.out.trans (hw1.mono HB.out.size))
        clear hw1 HLR
        by_cases hm0 : m = 0
        · subst hm0
          have HN := hide (HST.out hpos (.inl rfl))
          clear HST HON HE HE2 HNR
          go_wp2_with fail
          go_ret2
          exact .inr ⟨HN.out, rfl, HB1.out⟩
        · by_cases hk9 : k = 8
          · subst hk9
            have HN := hide (HST.out hpos (.inr rfl))
            clear HST HON HE HE2 HNR
            have hm1 : ((m : Int) == 0) = false := by rw [beq_eq_false_iff_ne]; omega
            go_wp2_with fail
            go_ret2
            exact .inr ⟨HN.out, rfl, HB1.out⟩
          · have HN := hide (HON.out hpos (by omega) hk9)
            have HC := hide (clone_str (xpT s r k))
            have HTS := hide (show (xpT s r k).size ≤ 1000000 by rw [← HE.out]; simp; omega)
            clear HST HON
            have hm1 : ((m : Int) == 0) = false := by rw [beq_eq_false_iff_ne]; omega
            have hk1 : ((k : Int) == 8) = false := by rw [beq_eq_false_iff_ne]; omega
            go_wp2_with fail
            rw [HE.out]
            refine (HC.out _ HTS.out).mono ?_
            rintro e w2 ⟨rfl, hw2⟩
            have HO2 := hide (HO1.out.below hw2 (Nat.le_refl _))
            have HB2 := hide (HB1.out.trans (hw2.mono HB1.out.size))
            clear hw2 HC
            go_wp2_with (at_builtin; refine wpList_appT rfl _ rfl _ _ rfl rfl HO2.out (xpT s r k) rfl (by rw [xpL_len]; omega) HB2.out.size ?_; intro u w3 hown hgr)
            have HB3 := hide (HB2.out.grown hgr HB2.out.size (fun g hg => (HO2.out.lt hg).1))
            rw [HE2.out]
            go_roundw
            case rel => exact ⟨k + 1, rfl, by omega, .inl (Nat.succ_pos k), HN.out, by rw [← xpL_step]; exact hown, HB3.out⟩
            case measure =>
              show (xpR s r (k + 1)).size < R.size
              rw [HNR.out]; omega
end Go.Proofs.Ythbmfaogjaahoaa

namespace Go.Proofs.Ythbmfaogjaahoaa
open Go Go.RowKit
set_option linter.unusedSimpArgs false
set_option linter.unusedVariables false

/-- How many parts there are, if the capacity is one. -/
def smO (W : Nat) (s : ByteArray) (cap : Int) : Option Nat := if s.size ≤ 400 ∧ cap * W ≤ 8192 ∧ 17 ≤ cap * W then xpN s (cap * W - 17) else none
def smC (W : Nat) (s : ByteArray) (cap : Int) : Int := if inR cap 1 1500 then (match smO W s cap with | some _ => 0 | none => 3) else 2
def smL (W : Nat) (s : ByteArray) (cap : Int) : Nat := if inR cap 1 1500 then (match smO W s cap with | some n => n | none => 0) else 0
/-- The parts, if there are n. -/
def smY (s : ByteArray) (r : Int) (n : Nat) (j : Nat) : PtV := ⟨j, n, parI (bytesI s), xpT s r j⟩
def smX (W : Nat) (s : ByteArray) (cap : Int) : Nat → PtV := smY s (cap * W - 17) (smL W s cap)
theorem sm_range {W : Nat} {s : ByteArray} {cap : Int} (h : inR cap 1 1500 = false) : smC W s cap = 2 ∧ smL W s cap = 0 := by unfold smC smL; rw [h]; exact ⟨rfl, rfl⟩
theorem sm_none {W : Nat} {s : ByteArray} {cap : Int} (h : inR cap 1 1500 = true) (h2 : smO W s cap = none) : smC W s cap = 3 ∧ smL W s cap = 0 := by unfold smC smL; rw [h, h2]; exact ⟨rfl, rfl⟩
theorem sm_some {W : Nat} {s : ByteArray} {cap : Int} {n : Nat} (h : inR cap 1 1500 = true) (h2 : smO W s cap = some n) : smC W s cap = 0 ∧ smL W s cap = n ∧ smX W s cap = smY s (cap * W - 17) n := by
  have h3 : smL W s cap = n := by unfold smL; rw [h, h2]; rfl
  refine ⟨by unfold smC; rw [h, h2]; rfl, h3, ?_⟩
  unfold smX; rw [h3]
/-- What a function leaves that returns a new slice of parts and a code. -/
def NewPtI (n : Nat) (X : Nat → PtV) (cd : Int) (w : World) (x : Ending) (w' : World) : Prop :=
  ∃ A c, x = .returned (.tuple #[.slice A n c, .int .i64 cd]) ∧ n ≤ c ∧ c ≤ 9223372036854775807 ∧ OwnPt w' w.heap.size (.slice A n c) n (ptV X) ∧ Below w.heap.size w w'
theorem NewPtI.nil_ {w w' : World} {X : Nat → PtV} {cd : Int} (h : Below w.heap.size w w') : NewPtI 0 X cd w (.returned (.tuple #[.slice none 0 0, .int .i64 cd])) w' := ⟨none, 0, rfl, Nat.le_refl _, by omega, OwnPt.nil _ _ _, h⟩
def SmRel (w : World) (base0 base g n : Nat) (X : Nat → PtV) (v : Value) (ts : List ByteArray) (u : Value) (wr : World) : Prop :=
  ∃ j : Nat, j ≤ n ∧ u = .int .i64 j ∧ OwnPt wr base (.slice (some ⟨g, 0, none⟩) n n) n (ptT X j) ∧ OwnT wr base0 v ts ∧ Below w.heap.size w wr
theorem ptT_end {X : Nat → PtV} {n i : Nat} (h : i < n * 4) : ptV X i = ptT X n i := by unfold ptT; rw [if_pos h]
theorem ptT_cells (X : Nat → PtV) (k : Nat) : ptT X k (k * 4) = .int .i64 0 ∧ ptT X k (k * 4 + 1) = .int .i64 0 ∧ ptT X k (k * 4 + 2) = .int .i64 0 ∧ ptT X k (k * 4 + 3) = .string ByteArray.empty := by
  obtain ⟨h0, h1, h2, h3⟩ := ptV_at (fun _ => PtV.zero) k
  refine ⟨?_, ?_, ?_, ?_⟩ <;> (unfold ptT; rw [if_neg (by omega)])
  · exact h0
  · exact h1
  · exact h2
  · exact h3

set_option maxRecDepth 100000 in
set_option maxHeartbeats 4000000 in
theorem implSm {p k g : Int} {q : Nat} {mul : Nat → Nat → Nat} (hb : fieldB p k g = true) (hK : Kd p k g q mul) (s : ByteArray) (hs : s.size ≤ 1099511627776) (cap : Int) (w : World) :
    Calls Try.prog 23 #[.agg #[.int .i64 p, .int .i64 k, .int .i64 g], .string s, .int .i64 cap] w (NewPtI (smL (wdt q) s cap) (smX (wdt q) s cap) (smC (wdt q) s cap) w) := by
  have HX := hide (Box.start w 36 p k g)
  obtain ⟨c0, c1, c2⟩ := HX.out.cells
  have HV := hide (show ∀ w, Calls Try.prog 55 #[.agg #[.int .i64 p, .int .i64 k, .int .i64 g]] w (Gives (.bool true) w) from fun w => by rw [← hb]; exact implValid p k g w)
  have HW := hide (fun w => implWd hK w)
  have HM := hide (fun w => implIsMsg s hs w)
  have HPA := hide (fun w => implPar s w)
  obtain ⟨hq3, hq⟩ := hK.big
  obtain ⟨hw1, hw9, _, _⟩ := wdt_is hq3 hq
  obtain ⟨W, hW⟩ : ∃ W, wdt q = W := ⟨_, rfl⟩
  rw [hW] at HW hw1 hw9
  rw [hW]
  clear hW hq3 hq
  have HCP := hide (fun w => implCap cap w)
  by_cases hin : inR cap 1 1500 = false
  · obtain ⟨e1, e2⟩ := sm_range (W := W) (s := s) hin
    rw [e1, e2]
    rw [hin] at HCP
    clear e1 e2 hin
    obtain ⟨X, hX⟩ : ∃ X, smX W s cap = X := ⟨_, rfl⟩
    rw [hX]
    clear hX
    go_enter Try.func23, Try.ntmps23
    go_wp2_with fail
    refine (HV.out _).mono ?_
    rintro e w1 ⟨rfl, hb1⟩
    have HX1 := hide (HX.out.next hb1)
    clear hb1 c0 c1 c2
    go_wp2_with fail
    refine (HCP.out _).mono ?_
    rintro e _ ⟨rfl, rfl⟩
    go_wp2_with fail
    go_ret2
    exact NewPtI.nil_ HX1.out.2
  have hin : inR cap 1 1500 = true := by simpa using hin
  rw [hin] at HCP
  obtain ⟨cn, rfl⟩ : ∃ cn : Nat, cap = cn := ⟨cap.toNat, by have := (decide_eq_true_iff.1 hin); omega⟩
  have hc15 : cn ≤ 1500 := by have := (decide_eq_true_iff.1 hin); omega
  have hrl : cn * W ≤ 1500 * 10 := Nat.mul_le_mul hc15 (by omega)
  have HNO := hide (fun h => sm_none (W := W) (s := s) hin h)
  have HSO := hide (fun n h => sm_some (W := W) (s := s) (n := n) hin h)
  have HO := hide (show smO W s cn = if s.size ≤ 400 ∧ (cn : Int) * W ≤ 8192 ∧ 17 ≤ (cn : Int) * W then xpN s ((cn : Int) * W - 17) else none from rfl)
  obtain ⟨rm, hrm⟩ : ∃ rm, cn * W = rm := ⟨_, rfl⟩
  have hci : (cn : Int) * (W : Int) = (rm : Int) := by rw [← hrm]; push_cast; rfl
  rw [hrm] at hrl
  rw [hci] at HSO HO
  have hmul : IntKind.i64.wrap ((cn : Int) * (W : Int)) = (rm : Int) := by rw [hci]; exact IntWalk.i64_in _ ⟨by omega, by omega⟩
  clear hrm hci hin
  by_cases hsz : s.size ≤ 400
  · by_cases hr1 : rm ≤ 8192
    · by_cases hr2 : 17 ≤ rm
      · have hO : smO W s cn = xpN s ((rm : Int) - 17) := by rw [HO.out, if_pos ⟨hsz, by omega, by omega⟩]
        have HT := hide (fun w => implTexts s hsz ((rm : Int) - 17) (by omega) w)
        have hd1 : decide (8192 < (rm : Int)) = false := by simp; omega
        have hd2 : decide ((rm : Int) < 17) = false := by simp; omega
        obtain ⟨L, hL⟩ : ∃ L, smL W s cn = L := ⟨_, rfl⟩
        obtain ⟨X, hX⟩ : ∃ X, smX W s cn = X := ⟨_, rfl⟩
        obtain ⟨cd, hcd⟩ : ∃ cd, smC W s cn = cd := ⟨_, rfl⟩
        have HNO2 := hide (show xpN s ((rm : Int) - 17) = none → cd = 3 ∧ L = 0 by intro h; rw [← hcd, ← hL]; exact HNO.out (hO.trans h))
        have HSO2 := hide (show ∀ n, xpN s ((rm : Int) - 17) = some n → cd = 0 ∧ L = n ∧ X = smY s ((rm : Int) - 17) n by intro n h; rw [← hcd, ← hL, ← hX]; exact HSO.out n (hO.trans h))
        rw [hL, hX, hcd]
        clear hL hX hcd hO HNO HSO HO
        go_enter Try.func23, Try.ntmps23
        go_wp2_with fail
        refine (HV.out _).mono ?_
        rintro e w1 ⟨rfl, hb1⟩
        have HX1 := hide (HX.out.next hb1)
        clear hb1 c0 c1 c2
        obtain ⟨c0, c1, c2⟩ := HX1.out.cells
        go_wp2_with fail
        refine (HCP.out _).mono ?_
        rintro e _ ⟨rfl, rfl⟩
        go_wp2_with fail
        refine (HW.out _).mono ?_
        rintro e w2 ⟨rfl, hb2⟩
        have HX2 := hide (HX1.out.next hb2)
        clear hb2 c0 c1 c2
        go_wp2_with fail
        refine (HM.out _).mono ?_
        rintro e _ ⟨rfl, rfl⟩
        rw [decide_eq_true hsz]
        go_wp2_with fail
        refine (HT.out _).mono ?_
        rintro e w3 (⟨n, v, hn, rfl, hown, hb3⟩ | ⟨hn, rfl, hb3⟩)
        · obtain ⟨e1, e2, e3⟩ := HSO2.out n hn
          subst e1 e2 e3
          obtain ⟨hn1, hn8⟩ := xpN_in hn
          have HOT := hide hown
          have HB3 := hide (HX2.out.2.trans (hb3.mono HX2.out.2.size))
          obtain ⟨g2, c2, rfl, hg1, hg2, hc2⟩ := hown.some_ (by rw [xpL_len]; omega)
          rw [xpL_len] at HOT hc2
          rw [xpL_len]
          have HPQ := hide (HPA.out hs)
          clear hown hb3 hn HNO2 HSO2 HT HV HW HM HPA HCP hmul hd1 hd2
          go_wp2_with fail
          refine (HPQ.out _).mono ?_
          rintro e _ ⟨rfl, rfl⟩
          obtain ⟨w4, hmk, ho4, hb4⟩ := make_pts w3 w3.heap.size L (smY s ((rm : Int) - 17) L) (by omega) (Nat.le_refl _)
          have HO4 := hide ho4
          have HT4 := hide (HOT.out.below hb4 (Nat.le_refl _))
          have HB4 := hide (HB3.out.trans (hb4.mono HB3.out.size))
          have HG := hide (show g2 ≠ w3.heap.size by omega)
          have HBS := hide (show w.heap.size ≤ w3.heap.size from HB3.out.size)
          clear ho4 hb4 HOT HB3
          obtain ⟨g, hg⟩ : ∃ g, w3.heap.size = g := ⟨_, rfl⟩
          rw [hg] at hmk HO4 HG HBS
          clear hg hg2
          go_wp2_with fail
          go_loopw [52] (fun u wr => SmRel w w2.heap.size g g L (smY s ((rm : Int) - 17) L) (.slice (some ⟨g2, 0, none⟩) L c2) (xpL s ((rm : Int) - 17) L) u wr) (fun u _ => L - (intOf u).toNat)
          case atStart => exact ⟨0, Nat.zero_le _, rfl, HO4.out, HT4.out, HB4.out⟩
          case round =>
            clear HO4 HT4 HB4 hmk
            obtain ⟨j, hj, rfl, ho, hot, hbl⟩ := hrel
            have HOP := hide ho
            have HOT := hide hot
            have HB := hide hbl
            clear ho hot hbl
            by_cases hlt : j < L
            · have hct := HOT.out.at_ (k := j) (xpL_at s ((rm : Int) - 17) hlt)
              obtain ⟨p0, p1, p2, p3⟩ := ptT_cells (smY s ((rm : Int) - 17) L) j
              have d0 := HOP.out.cell (i := j * 4) (by omega)
              have d1 := HOP.out.cell (i := j * 4 + 1) (by omega)
              have d2 := HOP.out.cell (i := j * 4 + 2) (by omega)
              have d3 := HOP.out.cell (i := j * 4 + 3) (by omega)
              rw [p0] at d0
              rw [p1] at d1
              rw [p2] at d2
              rw [p3] at d3
              have f0 := HOP.out.frozen (j * 4)
              have f1 := HOP.out.frozen (j * 4 + 1)
              have f2 := HOP.out.frozen (j * 4 + 2)
              have f3 := HOP.out.frozen (j * 4 + 3)
              have HPUT := hide (HOP.out.put4 (i := j * 4) (smY s ((rm : Int) - 17) L j))
              rw [ptT_step] at HPUT
              clear p0 p1 p2 p3
              have HY := hide (show smY s ((rm : Int) - 17) L j = ⟨j, L, parI (bytesI s), xpT s ((rm : Int) - 17) j⟩ from rfl)
              rw [HY.out] at HPUT
              obtain ⟨T, hT⟩ : ∃ T, xpT s ((rm : Int) - 17) j = T := ⟨_, rfl⟩
              rw [hT] at HPUT hct
              clear HY hT
              go_wp2_with fail
              have HOT2 := hide (HOT.out.grown HPUT.out.2 (.inr (by intro e; have := HG.out; simp only [Value.ownBlock, Option.some.injEq] at e; exact this e)))
              have HB2 := hide (HB.out.grown HPUT.out.2 HB.out.size (fun q hq => by injection hq with hq; have := HBS.out; omega))
              go_roundw
              case rel => exact ⟨j + 1, by omega, by go_num, HPUT.out.1, HOT2.out, HB2.out⟩
              case measure => simp [intOf]; omega
            · have hd : decide ((j : Int) < (L : Int)) = false := by simp; omega
              obtain rfl : j = L := by omega
              have HE := hide (HOP.out.congr (f' := ptV (smY s ((rm : Int) - 17) j)) (fun i hi => ptT_end hi))
              clear HOP
              go_wp2_with fail
              go_ret2
              exact ⟨_, _, rfl, Nat.le_refl _, by omega, HE.out.low HBS.out, HB.out⟩
        · obtain ⟨e1, e2⟩ := HNO2.out hn
          subst e1 e2
          have HB3 := hide (HX2.out.2.trans (hb3.mono HX2.out.2.size))
          clear hb3 hn
          go_wp2_with fail
          go_ret2
          exact NewPtI.nil_ HB3.out
      · obtain ⟨e1, e2⟩ := HNO.out (by rw [HO.out, if_neg (by omega)])
        rw [e1, e2]
        clear e1 e2 HNO HSO HO
        obtain ⟨X, hX⟩ : ∃ X, smX W s cn = X := ⟨_, rfl⟩
        rw [hX]
        clear hX
        have hd1 : decide (8192 < (rm : Int)) = false := by simp; omega
        have hd2 : decide ((rm : Int) < 17) = true := by simp; omega
        go_enter Try.func23, Try.ntmps23
        go_wp2_with fail
        refine (HV.out _).mono ?_
        rintro e w1 ⟨rfl, hb1⟩
        have HX1 := hide (HX.out.next hb1)
        clear hb1 c0 c1 c2
        obtain ⟨c0, c1, c2⟩ := HX1.out.cells
        go_wp2_with fail
        refine (HCP.out _).mono ?_
        rintro e _ ⟨rfl, rfl⟩
        go_wp2_with fail
        refine (HW.out _).mono ?_
        rintro e w2 ⟨rfl, hb2⟩
        have HX2 := hide (HX1.out.next hb2)
        clear hb2 c0 c1 c2
        go_wp2_with fail
        refine (HM.out _).mono ?_
        rintro e _ ⟨rfl, rfl⟩
        rw [decide_eq_true hsz]
        go_wp2_with fail
        go_ret2
        exact NewPtI.nil_ HX2.out.2
    · obtain ⟨e1, e2⟩ := HNO.out (by rw [HO.out, if_neg (by omega)])
      rw [e1, e2]
      clear e1 e2 HNO HSO HO
      obtain ⟨X, hX⟩ : ∃ X, smX W s cn = X := ⟨_, rfl⟩
      rw [hX]
      clear hX
      have hd1 : decide (8192 < (rm : Int)) = true := by simp; omega
      go_enter Try.func23, Try.ntmps23
      go_wp2_with fail
      refine (HV.out _).mono ?_
      rintro e w1 ⟨rfl, hb1⟩
      have HX1 := hide (HX.out.next hb1)
      clear hb1 c0 c1 c2
      obtain ⟨c0, c1, c2⟩ := HX1.out.cells
      go_wp2_with fail
      refine (HCP.out _).mono ?_
      rintro e _ ⟨rfl, rfl⟩
      go_wp2_with fail
      refine (HW.out _).mono ?_
      rintro e w2 ⟨rfl, hb2⟩
      have HX2 := hide (HX1.out.next hb2)
      clear hb2 c0 c1 c2
      go_wp2_with fail
      refine (HM.out _).mono ?_
      rintro e _ ⟨rfl, rfl⟩
      rw [decide_eq_true hsz]
      go_wp2_with fail
      go_ret2
      exact NewPtI.nil_ HX2.out.2
  · obtain ⟨e1, e2⟩ := HNO.out (by rw [HO.out, if_neg (by omega)])
    rw [e1, e2]
    clear e1 e2 HNO HSO HO
    obtain ⟨X, hX⟩ : ∃ X, smX W s cn = X := ⟨_, rfl⟩
    rw [hX]
    clear hX
    go_enter Try.func23, Try.ntmps23
    go_wp2_with fail
    refine (HV.out _).mono ?_
    rintro e w1 ⟨rfl, hb1⟩
    have HX1 := hide (HX.out.next hb1)
    clear hb1 c0 c1 c2
    obtain ⟨c0, c1, c2⟩ := HX1.out.cells
    go_wp2_with fail
    refine (HCP.out _).mono ?_
    rintro e _ ⟨rfl, rfl⟩
    go_wp2_with fail
    refine (HW.out _).mono ?_
    rintro e w2 ⟨rfl, hb2⟩
    have HX2 := hide (HX1.out.next hb2)
    clear hb2 c0 c1 c2
    go_wp2_with fail
    refine (HM.out _).mono ?_
    rintro e _ ⟨rfl, rfl⟩
    rw [decide_eq_false hsz]
    go_wp2_with fail
    go_ret2
    exact NewPtI.nil_ HX2.out.2
end Go.Proofs.Ythbmfaogjaahoaa

namespace Go.Proofs.Ythbmfaogjaahoaa
open Go Go.RowKit
set_option linter.unusedSimpArgs false
set_option linter.unusedVariables false

/-- append(out, part). -/
theorem wp_appPt {base : Nat} {v : Value} {n : Nat} {f : Nat → Value} (w : World) {o : Oper} {a : Act} {K : Act → World → Prop} {Q : Exit → Act → World → Prop} (s x : Operand)
    (ho : o.op = .call { callee := .builtin .append, args := #[s, x], argTypes := #[42, 42] })
    (hs : a.eval s = v) (h : OwnPt w base v n f) (y : PtV) (hf : f (n * 4) = .int .i64 y.i ∧ f (n * 4 + 1) = .int .i64 y.c ∧ f (n * 4 + 2) = .int .i64 y.p ∧ f (n * 4 + 3) = .string y.t)
    (hx : a.eval x = .slice (some ⟨w.heap.size, 0, none⟩) 1 1) (hlen : n ≤ 10000) (hbase : base ≤ w.heap.size)
    (hk : ∀ v' w', OwnPt w' base v' (n + 1) f → w.grownBy w' v.ownBlock → K (a.put o.dst v') w') :
    o.wp Try.prog a (w.alloc (.cells #[.int .i64 y.i, .int .i64 y.c, .int .i64 y.p, .string y.t] 26)) K Q := by
  obtain ⟨i, hi, hz0, hz1, hz2⟩ := info_parts elemPt
  refine wp_append_own (w := w.alloc (.cells #[.int .i64 y.i, .int .i64 y.c, .int .i64 y.p, .string y.t] 26)) s x 42 ho base 26 i _ 4 40 Try.underlying42 hi hz0 hz1 hz2 rfl (by decide) v n _ hs (World.ownsRow.alloc h _) ⟨w.heap.size, 0, none⟩ 1 1 [.int .i64 y.i, .int .i64 y.c, .int .i64 y.p, .string y.t] hx rfl
    (World.news_of_block (heap_alloc_new w (.cells #[.int .i64 y.i, .int .i64 y.c, .int .i64 y.p, .string y.t] 26))) (fun u hu => ?_) (by simp only [maxLen]; omega) (by omega) (by rw [alloc_size]; omega) fun v' w' h2 h3 _ => ?_
  · simp only [List.mem_cons, List.not_mem_nil, or_false] at hu
    rcases hu with rfl | rfl | rfl | rfl <;> rfl
  · refine hk v' w' ?_ (grown_trans (World.grownBy_alloc w _ _) h3)
    unfold OwnPt
    obtain ⟨f0, f1, f2, f3⟩ := hf
    rw [show (n + 1) * 4 = n * 4 + 4 by omega, show (List.range (n * 4 + 4)) = List.range (n * 4) ++ [n * 4, n * 4 + 1, n * 4 + 2, n * 4 + 3] by simp [List.range_succ], List.map_append]
    simp only [List.map_cons, List.map_nil, f0, f1, f2, f3]
    exact h2
theorem OwnPt.lit0 (w : World) (f : Nat → Value) : OwnPt (w.alloc (.cells #[] 26)) w.heap.size (.slice (some ⟨w.heap.size, 0, none⟩) 0 0) 0 f := by
  have h := World.ownsRow_lit (base := w.heap.size) (e := 26) (size := 4) w #[] 0 (Nat.le_refl _) (by decide) rfl
  exact h
theorem OwnT.lit0 (w : World) : OwnT (w.alloc (.cells #[] 9)) w.heap.size (.slice (some ⟨w.heap.size, 0, none⟩) 0 0) [] := by
  have h := World.ownsRow_lit (base := w.heap.size) (e := 9) (size := 1) w #[] 0 (Nat.le_refl _) (by decide) rfl
  exact h
def XwRel (s : ByteArray) (r : Int) (w : World) (base : Nat) (u v : Value) (wr : World) : Prop :=
  ∃ k : Nat, v = .string (xpR s r k) ∧ k ≤ 8 ∧ xpN s r = xpG s r (9 - k) k ∧ OwnT wr base u (xpL s r k) ∧ Below w.heap.size w wr
def SoRel (w : World) (base0 base n : Nat) (X : Nat → PtV) (v : Value) (ts : List ByteArray) (u i : Value) (wr : World) : Prop :=
  ∃ j : Nat, j ≤ n ∧ i = .int .i64 j ∧ OwnPt wr base u j (ptV X) ∧ OwnT wr base0 v ts ∧ Below w.heap.size w wr ∧ base ≤ wr.heap.size

set_option maxRecDepth 100000 in
set_option maxHeartbeats 4000000 in
theorem specSm {p k g : Int} {q : Nat} {mul : Nat → Nat → Nat} (hb : fieldB p k g = true) (hK : Kd p k g q mul) (s : ByteArray) (hs : s.size ≤ 1099511627776) (cap : Int) (w : World) :
    Calls Try.prog 22 #[.agg #[.int .i64 p, .int .i64 k, .int .i64 g], .string s, .int .i64 cap] w (NewPtI (smL (wdt q) s cap) (smX (wdt q) s cap) (smC (wdt q) s cap) w) := by
  have HX := hide (Box.start w 36 p k g)
  obtain ⟨c0, c1, c2⟩ := HX.out.cells
  have HV := hide (show ∀ w, Calls Try.prog 51 #[.agg #[.int .i64 p, .int .i64 k, .int .i64 g]] w (Gives (.bool true) w) from fun w => by rw [← hb]; exact specIsField p k g w)
  have HW := hide (fun w => specWd hK w)
  have HPA := hide (fun w => specPar s hs w)
  obtain ⟨hq3, hq⟩ := hK.big
  obtain ⟨hw1, hw9, _, _⟩ := wdt_is hq3 hq
  obtain ⟨W, hW⟩ : ∃ W, wdt q = W := ⟨_, rfl⟩
  rw [hW] at HW hw1 hw9
  rw [hW]
  clear hW hq3 hq
  have HCP := hide (fun w => specCap cap w)
  by_cases hin : inR cap 1 1500 = false
  · obtain ⟨e1, e2⟩ := sm_range (W := W) (s := s) hin
    rw [e1, e2]
    rw [hin] at HCP
    clear e1 e2 hin
    obtain ⟨X, hX⟩ : ∃ X, smX W s cap = X := ⟨_, rfl⟩
    rw [hX]
    clear hX
    go_enter Try.func22, Try.ntmps22
    go_wp2_with fail
    refine (HV.out _).mono ?_
    rintro e w1 ⟨rfl, hb1⟩
    have HX1 := hide (HX.out.next hb1)
    clear hb1 c0 c1 c2
    obtain ⟨c0, c1, c2⟩ := HX1.out.cells
    go_wp2_with fail
    refine (HCP.out _).mono ?_
    rintro e _ ⟨rfl, rfl⟩
    go_wp2_with fail
    go_ret2
    exact NewPtI.nil_ HX1.out.2
  have hin : inR cap 1 1500 = true := by simpa using hin
  rw [hin] at HCP
  obtain ⟨cn, rfl⟩ : ∃ cn : Nat, cap = cn := ⟨cap.toNat, by have := (decide_eq_true_iff.1 hin); omega⟩
  have hc15 : cn ≤ 1500 := by have := (decide_eq_true_iff.1 hin); omega
  have hrl : cn * W ≤ 1500 * 10 := Nat.mul_le_mul hc15 (by omega)
  have HNO := hide (fun h => sm_none (W := W) (s := s) hin h)
  have HSO := hide (fun n h => sm_some (W := W) (s := s) (n := n) hin h)
  have HO := hide (show smO W s cn = if s.size ≤ 400 ∧ (cn : Int) * W ≤ 8192 ∧ 17 ≤ (cn : Int) * W then xpN s ((cn : Int) * W - 17) else none from rfl)
  obtain ⟨rm, hrm⟩ : ∃ rm, cn * W = rm := ⟨_, rfl⟩
  have hci : (cn : Int) * (W : Int) = (rm : Int) := by rw [← hrm]; push_cast; rfl
  rw [hrm] at hrl
  rw [hci] at HSO HO
  have hmul : IntKind.i64.wrap ((cn : Int) * (W : Int)) = (rm : Int) := by rw [hci]; exact IntWalk.i64_in _ ⟨by omega, by omega⟩
  clear hrm hci hin
  by_cases hsz : s.size ≤ 400
  case neg =>
    have hd0 : decide (400 < (s.size : Int)) = true := by simp; omega
    obtain ⟨e1, e2⟩ := HNO.out (by rw [HO.out, if_neg (by omega)])
    rw [e1, e2]
    clear e1 e2 HNO HSO HO
    obtain ⟨X, hX⟩ : ∃ X, smX W s cn = X := ⟨_, rfl⟩
    rw [hX]
    clear hX
    go_enter Try.func22, Try.ntmps22
    go_wp2_with fail
    refine (HV.out _).mono ?_
    rintro e w1 ⟨rfl, hb1⟩
    have HX1 := hide (HX.out.next hb1)
    clear hb1 c0 c1 c2
    obtain ⟨c0, c1, c2⟩ := HX1.out.cells
    go_wp2_with fail
    refine (HCP.out _).mono ?_
    rintro e _ ⟨rfl, rfl⟩
    go_wp2_with fail
    refine (HW.out _).mono ?_
    rintro e w2 ⟨rfl, hb2⟩
    have HX2 := hide (HX1.out.next hb2)
    clear hb2 c0 c1 c2
    go_wp2_with fail
    go_ret2
    exact NewPtI.nil_ HX2.out.2
  have hd0 : decide (400 < (s.size : Int)) = false := by simp; omega
  by_cases hr1 : rm ≤ 8192
  case neg =>
    obtain ⟨e1, e2⟩ := HNO.out (by rw [HO.out, if_neg (by omega)])
    rw [e1, e2]
    clear e1 e2 HNO HSO HO
    obtain ⟨X, hX⟩ : ∃ X, smX W s cn = X := ⟨_, rfl⟩
    rw [hX]
    clear hX
    have hd1 : decide (8192 < (rm : Int)) = true := by simp; omega
    go_enter Try.func22, Try.ntmps22
    go_wp2_with fail
    refine (HV.out _).mono ?_
    rintro e w1 ⟨rfl, hb1⟩
    have HX1 := hide (HX.out.next hb1)
    clear hb1 c0 c1 c2
    obtain ⟨c0, c1, c2⟩ := HX1.out.cells
    go_wp2_with fail
    refine (HCP.out _).mono ?_
    rintro e _ ⟨rfl, rfl⟩
    go_wp2_with fail
    refine (HW.out _).mono ?_
    rintro e w2 ⟨rfl, hb2⟩
    have HX2 := hide (HX1.out.next hb2)
    clear hb2 c0 c1 c2
    go_wp2_with fail
    go_ret2
    exact NewPtI.nil_ HX2.out.2
  have hd1 : decide (8192 < (rm : Int)) = false := by simp; omega
  by_cases hr2 : 17 ≤ rm
  case neg =>
    obtain ⟨e1, e2⟩ := HNO.out (by rw [HO.out, if_neg (by omega)])
    rw [e1, e2]
    clear e1 e2 HNO HSO HO
    obtain ⟨X, hX⟩ : ∃ X, smX W s cn = X := ⟨_, rfl⟩
    rw [hX]
    clear hX
    have hd2 : decide ((rm : Int) < 17) = true := by simp; omega
    go_enter Try.func22, Try.ntmps22
    go_wp2_with fail
    refine (HV.out _).mono ?_
    rintro e w1 ⟨rfl, hb1⟩
    have HX1 := hide (HX.out.next hb1)
    clear hb1 c0 c1 c2
    obtain ⟨c0, c1, c2⟩ := HX1.out.cells
    go_wp2_with fail
    refine (HCP.out _).mono ?_
    rintro e _ ⟨rfl, rfl⟩
    go_wp2_with fail
    refine (HW.out _).mono ?_
    rintro e w2 ⟨rfl, hb2⟩
    have HX2 := hide (HX1.out.next hb2)
    clear hb2 c0 c1 c2
    go_wp2_with fail
    go_ret2
    exact NewPtI.nil_ HX2.out.2
  have hO : smO W s cn = xpN s ((rm : Int) - 17) := by rw [HO.out, if_pos ⟨hsz, by omega, by omega⟩]
  have HLO := hide (fun (t : ByteArray) (ht : t.size ≤ 400) (w : World) => specLongest t ht (rm : Int) (by omega) (by omega) w)
  have hd2 : decide ((rm : Int) < 17) = false := by simp; omega
  obtain ⟨L, hL⟩ : ∃ L, smL W s cn = L := ⟨_, rfl⟩
  obtain ⟨X, hX⟩ : ∃ X, smX W s cn = X := ⟨_, rfl⟩
  obtain ⟨cd, hcd⟩ : ∃ cd, smC W s cn = cd := ⟨_, rfl⟩
  have HNO2 := hide (show xpN s ((rm : Int) - 17) = none → cd = 3 ∧ L = 0 by intro h; rw [← hcd, ← hL]; exact HNO.out (hO.trans h))
  have HSO2 := hide (show ∀ n, xpN s ((rm : Int) - 17) = some n → cd = 0 ∧ L = n ∧ X = smY s ((rm : Int) - 17) n by intro n h; rw [← hcd, ← hL, ← hX]; exact HSO.out n (hO.trans h))
  rw [hL, hX, hcd]
  clear hL hX hcd hO HNO HSO HO
  go_enter Try.func22, Try.ntmps22
  go_wp2_with fail
  refine (HV.out _).mono ?_
  rintro e w1 ⟨rfl, hb1⟩
  have HX1 := hide (HX.out.next hb1)
  clear hb1 c0 c1 c2
  obtain ⟨c0, c1, c2⟩ := HX1.out.cells
  go_wp2_with fail
  refine (HCP.out _).mono ?_
  rintro e _ ⟨rfl, rfl⟩
  go_wp2_with fail
  refine (HW.out _).mono ?_
  rintro e w2 ⟨rfl, hb2⟩
  have HX2 := hide (HX1.out.next hb2)
  clear hb2 c0 c1 c2
  go_wp2_with fail
  obtain ⟨r, hr⟩ : ∃ r : Int, (rm : Int) - 17 = r := ⟨_, rfl⟩
  rw [hr] at HNO2 HSO2 HLO
  clear hd0 hd1 hd2 hmul hr
  have HT0 := hide (show OwnT (w2.alloc (.cells #[] 9)) w2.heap.size (.slice (some ⟨w2.heap.size, 0, none⟩) 0 0) (xpL s r 0) from OwnT.lit0 w2)
  have HB0 := hide ((Below.refl w2.heap.size w2).alloc (Nat.le_refl _) (.cells #[] 9))
  have HS := hide hsz
  go_loopw [9, 10] (fun u v wr => XwRel s r w2 w2.heap.size u v wr) (fun u _ _ => match u with | .slice _ n _ => 9 - n | _ => 0)
  case atStart => exact ⟨0, by rw [xpR_zero], by omega, rfl, HT0.out, HB0.out⟩
  case round =>
    clear HT0 HB0
    obtain ⟨k, rfl, hk8, hG, hO, hB⟩ := hrel
    have HG := hide hG
    have HO := hide hO
    have HB := hide hB
    obtain ⟨A, c, hu, hc⟩ := hO.form
    rw [xpL_len] at hu hc
    subst hu
    clear hO hB hG
    have hRs : (xpR s r k).size ≤ 400 := by rw [xpR_size]; omega
    have HE := hide (xpT_eq s r k)
    have HE2 := hide (xpR_next s r k)
    have hml := lg_le (xpR s r k) r
    have HD := hide (show 0 < k → (xpR s r k).size = 0 → xpN s r = some k by
      intro hk1 h
      rw [HG.out, show 9 - k = (8 - k) + 1 by omega, xpG_done hk1 h])
    have HST := hide (show (k = 0 ∨ 0 < (xpR s r k).size) → ((lg (xpR s r k) r = 0 ∧ 0 < (xpR s r k).size) ∨ k = 8) → xpN s r = none by
      intro h1 h2
      rw [HG.out, show 9 - k = (8 - k) + 1 by omega, xpG_stop h1 h2])
    have HON := hide (show (k = 0 ∨ 0 < (xpR s r k).size) → (0 < lg (xpR s r k) r ∨ (xpR s r k).size = 0) → k ≠ 8 → xpN s r = xpG s r (9 - (k + 1)) (k + 1) by
      intro h1 h2 h3
      rw [HG.out, show 9 - k = (8 - k) + 1 by omega, xpG_on h1 ⟨h2, h3⟩, show 9 - (k + 1) = 8 - k by omega])
    obtain ⟨R, hR⟩ : ∃ R, xpR s r k = R := ⟨_, rfl⟩
    rw [hR] at hRs HE HE2 hml HD HST HON
    rw [hR]
    obtain ⟨m, hm⟩ : ∃ m, lg R r = m := ⟨_, rfl⟩
    have HLR := hide (HLO.out R hRs)
    rw [hm] at HE HE2 hml HST HON HLR
    clear hR hm
    by_cases hend : R.size = 0 ∧ 0 < k
    · obtain ⟨hz, hk0⟩ := hend
      have hDD := HD.out hk0 hz
      obtain ⟨e1, e2, e3⟩ := HSO2.out k hDD
      clear HNO2
      subst e1 e2 e3
      have hg0 : decide (0 < (R.size : Int)) = false := decide_eq_false (by omega)
      have hRe : R = ByteArray.empty := ByteArray.ext (Array.eq_empty_of_size_eq_zero hz)
      have hk1 : ((L : Int) == 0) = false := by rw [beq_eq_false_iff_ne]; omega
      obtain ⟨g2, c2, hu2, hg1, hg2, hc2⟩ := HO.out.some_ (by rw [xpL_len]; omega)
      rw [xpL_len] at hu2
      injection hu2 with hA _ hcc
      subst hA hcc
      clear HD HST HON HE HE2 HLR hml HSO2 HG hDD hz
      go_wp2_with fail
      have HOP0 := hide (OwnPt.lit0 wr (ptV (smY s r L)))
      have HOT0 := hide (HO.out.alloc (.cells #[] 26))
      have HBx := hide (HB.out.alloc HB.out.size (.cells #[] 26))
      have HG2 := hide (show g2 < wr.heap.size by omega)
      have HSZ := hide (show wr.heap.size ≤ (wr.alloc (.cells #[] 26)).heap.size by rw [alloc_size]; omega)
      have HBS := hide (show w2.heap.size ≤ wr.heap.size from HB.out.size)
      obtain ⟨base, hbase⟩ : ∃ base, wr.heap.size = base := ⟨_, rfl⟩
      rw [hbase] at HOP0 HG2 HBS HSZ
      rw [hbase]
      obtain ⟨W0, hW0⟩ : ∃ W0, wr.alloc (.cells #[] 26) = W0 := ⟨_, rfl⟩
      rw [hW0] at HOP0 HOT0 HBx HSZ
      rw [hW0]
      clear hW0 hbase HO HB hg2
      go_loopw [12, 13] (fun u i wr => SoRel w2 w2.heap.size base L (smY s r L) (.slice (some ⟨g2, 0, none⟩) L c) (xpL s r L) u i wr) (fun _ i _ => L - (intOf i).toNat)
      case atStart => exact ⟨0, Nat.zero_le _, rfl, HOP0.out, HOT0.out, HBx.out, HSZ.out⟩
      case round =>
        clear HOP0 HOT0 HBx HSZ
        obtain ⟨j, hj, rfl, ho, hot, hbl, hsz4⟩ := hrel
        have HSZ := hide hsz4
        clear hsz4
        obtain ⟨Ao, co, hu, hco, hcm⟩ := ho.form0
        subst hu
        have HOP := hide ho
        have HOT := hide hot
        have HB := hide hbl
        have HNE := hide (show (Value.slice (some ⟨g2, 0, none⟩) L c).ownBlock = none ∨ (Value.slice (some ⟨g2, 0, none⟩) L c).ownBlock ≠ (Value.slice Ao j co).ownBlock by
          refine .inr fun e => ?_
          have := (World.ownsRow.lt ho g2 e.symm).1
          have := HG2.out
          omega)
        clear ho hot hbl
        by_cases hlt : j < L
        · have hct := HOT.out.at_ (k := j) (xpL_at s r hlt)
          have HY := hide (show smY s r L j = ⟨j, L, parI (bytesI s), xpT s r j⟩ from rfl)
          have HYV := hide (ptV_at (smY s r L) j)
          rw [HY.out] at HYV
          have HKT := hide (xpL_at s r hlt)
          obtain ⟨T, hT⟩ : ∃ T, xpT s r j = T := ⟨_, rfl⟩
          rw [hT] at HYV hct HKT
          obtain ⟨pa, hpa⟩ : ∃ pa, parI (bytesI s) = pa := ⟨_, rfl⟩
          rw [hpa] at HYV HPA
          clear HY hT hpa
          go_wp2_with fail
          refine tail_begin (fun w' => w'.cell? ⟨g2, j, none⟩ = some (.string T)) 14 (by kernel_rfl) hct (fun hS' => ?_)
          have HOPd := hide HOP.out.drew
          have HOTd := hide HOT.out.drew
          have HBd := hide HB.out.drew
          have HSZd := hide (show base ≤ wr.drew.heap.size from HSZ.out)
          obtain ⟨wd, hwd⟩ : ∃ wd, wr.drew = wd := ⟨_, rfl⟩
          rw [hwd] at HOPd HOTd HBd HSZd hS' ⊢
          clear hwd hct HOP HOT HB HSZ
          refine tail_take2 0 rfl (by kernel_rfl) (by kernel_rfl) (by kernel_rfl) (by decide) (fun _ _ _ h => h) (by rfl) (v := ?_) ?_ (by assumption) ?_
          rotate_left 1
          · intro w' hS'; (try dsimp only at hS'); go_simp; try with_reducible rfl
          try simp only [Act.put, List.setIfInBounds_toArray, List.set_cons_zero, List.set_cons_succ]
          refine tail_take2 1 rfl (by kernel_rfl) (by kernel_rfl) (by kernel_rfl) (by decide) (fun _ _ _ h => h) (by rfl) (v := ?_) ?_ (by assumption) ?_
          rotate_left 1
          · intro w' hS'; (try dsimp only at hS'); go_simp; try with_reducible rfl
          try simp only [Act.put, List.setIfInBounds_toArray, List.set_cons_zero, List.set_cons_succ]
          refine tail_take2 2 rfl (by kernel_rfl) (by kernel_rfl) (by kernel_rfl) (by decide) (fun _ _ _ h => h) (by rfl) (v := ?_) ?_ (by assumption) ?_
          rotate_left 1
          · intro w' hS'; (try dsimp only at hS'); go_simp; try with_reducible rfl
          try simp only [Act.put, List.setIfInBounds_toArray, List.set_cons_zero, List.set_cons_succ]
          refine tail_take2 3 rfl (by kernel_rfl) (by kernel_rfl) (by kernel_rfl) (by decide) (fun _ _ _ h => h) (by rfl) (v := ?_) ?_ (by assumption) ?_
          rotate_left 1
          · intro w' hS'; (try dsimp only at hS'); go_simp; try with_reducible rfl
          try simp only [Act.put, List.setIfInBounds_toArray, List.set_cons_zero, List.set_cons_succ]
          refine tail_take2 4 rfl (by kernel_rfl) (by kernel_rfl) (by kernel_rfl) (by decide) (fun _ _ _ h => h) (by rfl) (v := ?_) ?_ (by assumption) ?_
          rotate_left 1
          · intro w' hS'; (try dsimp only at hS'); go_simp; try with_reducible rfl
          try simp only [Act.put, List.setIfInBounds_toArray, List.set_cons_zero, List.set_cons_succ]
          refine tail_take2 6 rfl (by kernel_rfl) (by kernel_rfl) (by kernel_rfl) (by decide) (fun _ _ _ h => h) (by rfl) (v := ?_) ?_ (by assumption) ?_
          rotate_left 1
          · intro w' hS'; (try dsimp only at hS'); go_simp; try with_reducible rfl
          try simp only [Act.put, List.setIfInBounds_toArray, List.set_cons_zero, List.set_cons_succ]
          refine tail_take2 7 rfl (by kernel_rfl) (by kernel_rfl) (by kernel_rfl) (by decide) (fun _ _ _ h => h) (by rfl) (v := ?_) ?_ (by assumption) ?_
          rotate_left 1
          · intro w' hS'; (try dsimp only at hS'); go_simp; try with_reducible rfl
          try simp only [Act.put, List.setIfInBounds_toArray, List.set_cons_zero, List.set_cons_succ]
          refine tail_take2 8 rfl (by kernel_rfl) (by kernel_rfl) (by kernel_rfl) (by decide) (fun _ _ _ h => h) (by rfl) (v := ?_) ?_ (by assumption) ?_
          rotate_left 1
          · intro w' hS'; (try dsimp only at hS'); go_simp; try with_reducible rfl
          try simp only [Act.put, List.setIfInBounds_toArray, List.set_cons_zero, List.set_cons_succ]
          refine tail_take2 9 rfl (by kernel_rfl) (by kernel_rfl) (by kernel_rfl) (by decide) (fun _ _ _ h => h) (by rfl) (v := ?_) ?_ (by assumption) ?_
          rotate_left 1
          · intro w' hS'; (try dsimp only at hS'); go_simp; try with_reducible rfl
          try simp only [Act.put, List.setIfInBounds_toArray, List.set_cons_zero, List.set_cons_succ]
          refine tail_call 5 rfl (by kernel_rfl) rfl (fun K' hK => ?_)
          go_simp
          (go_at_call 14; refine (HPA.out _).mono ?_; rintro e _ ⟨rfl, rfl⟩)
          refine hK.out _ _ hS' (fun hS' => ?_)
          clear hK K'
          try simp only [Act.put, List.setIfInBounds_toArray, List.set_cons_zero, List.set_cons_succ]
          refine tail_take2 10 rfl (by kernel_rfl) (by kernel_rfl) (by kernel_rfl) (by decide) (fun _ _ _ h => h) (by rfl) (v := ?_) ?_ (by assumption) ?_
          rotate_left 1
          · intro w' hS'; (try dsimp only at hS'); go_simp; try with_reducible rfl
          try simp only [Act.put, List.setIfInBounds_toArray, List.set_cons_zero, List.set_cons_succ]
          have HS1 := hide (show (wd.alloc (.cells #[.int .i64 (j : Int), .int .i64 (L : Int), .int .i64 pa, .string T] 26)).cell? ⟨g2, j, none⟩ = some (.string T) from (((Below.refl wd.heap.size wd).alloc (Nat.le_refl _) _).cell (p := ⟨g2, j, none⟩) (HOTd.out.lt rfl).2).trans hS')
          refine tail_call 11 rfl (by kernel_rfl) rfl (fun K' hK => ?_)
          go_simp
          refine hK.out _ _ HS1.out (fun hS' => ?_)
          clear hK K'
          try simp only [Act.put, List.setIfInBounds_toArray, List.set_cons_zero, List.set_cons_succ]
          refine tail_call 12 rfl (by kernel_rfl) rfl (fun K' hK => ?_)
          refine wp_appPt (base := base) (v := .slice Ao j co) (n := j) (f := ptV (smY s r L)) wd (.tmp 76) (.tmp 87) rfl rfl (by first | exact HOPd.out | (have h := HOPd.out; exact h)) ⟨j, L, pa, T⟩ HYV.out rfl (by omega) HSZd.out ?_
          intro u w4 hu4 hg4
          have HOP4 := hide hu4
          have HOT4 := hide (HOTd.out.grown hg4 HNE.out)
          have HB4 := hide (HBd.out.grown hg4 HBd.out.size (fun g hg => Nat.le_trans HBS.out (World.ownsRow.lt HOPd.out g hg).1))
          have HSZ4 := hide (Nat.le_trans HSZd.out hg4.size)
          clear hu4 hg4 HOPd HOTd HBd HSZd HS1
          refine hK.out _ _ (HOT4.out.at_ HKT.out) (fun hS' => ?_)
          clear hK K'
          try simp only [Act.put, List.setIfInBounds_toArray, List.set_cons_zero, List.set_cons_succ]
          refine tail_take2 13 rfl (by kernel_rfl) (by kernel_rfl) (by kernel_rfl) (by decide) (fun _ _ _ h => h) (by rfl) (v := ?_) ?_ (by assumption) ?_
          rotate_left 1
          · intro w' hS'; (try dsimp only at hS'); go_simp; try with_reducible rfl
          try simp only [Act.put, List.setIfInBounds_toArray, List.set_cons_zero, List.set_cons_succ]
          refine tail_end (by kernel_rfl) ?_
          clear hS'
          go_wp2_with fail
          go_roundw
          case rel => exact ⟨j + 1, by omega, by go_num, HOP4.out, HOT4.out, HB4.out, HSZ4.out⟩
          case measure => simp [intOf]; omega
        · have hd : decide ((j : Int) < (L : Int)) = false := by simp; omega
          obtain rfl : j = L := by omega
          have HF := hide (show NewPtI j (smY s r j) 0 w (.returned (.tuple #[.slice Ao j co, .int .i64 0])) _ from ⟨Ao, co, rfl, hco, hcm, HOP.out.low (Nat.le_trans HX2.out.2.size HBS.out), HX2.out.2.trans (HB.out.mono HX2.out.2.size)⟩)
          go_wp2_with fail
          go_ret2
          exact HF.out
    · have hcont : k = 0 ∨ 0 < R.size := by omega
      clear HD
      by_cases hz : R.size = 0
      · have hk0 : k = 0 := by omega
        have hm0 : m = 0 := by omega
        have hRe : R = ByteArray.empty := ByteArray.ext (Array.eq_empty_of_size_eq_zero hz)
        subst hRe hk0 hm0
        have HN := hide (HON.out (.inl rfl) (.inr hz) (by omega))
        clear HST hz HON hend hcont
        go_wp2_with fail
        refine (HLR.out _).mono ?_
        rintro e w3 ⟨rfl, hw1⟩
        have HO1 := hide (HO.out.below hw1 (Nat.le_refl _))
        have HB1 := hide (HB.out.trans (hw1.mono HB.out.size))
        clear hw1 HLR
        go_wp2_with (at_builtin; refine wpList_appT rfl _ rfl _ _ rfl rfl HO1.out _ rfl (by rw [xpL_len]; omega) HB1.out.size ?_; intro u w4 hown hgr)
        have HB3 := hide (HB1.out.grown hgr HB1.out.size (fun g hg => (HO1.out.lt hg).1))
        have e1 : ByteArray.empty = xpT s r 0 := by rw [← HE.out]; rfl
        have e2 : ByteArray.empty = xpR s r 1 := by rw [← HE2.out]; rfl
        rw [e1, xpL_step] at hown
        rw [e2]
        obtain ⟨A', c', hu', hc'⟩ := hown.form
        rw [xpL_len] at hu' hc'
        subst hu'
        go_roundw
        case rel => exact ⟨1, rfl, by decide, HN.out, hown, HB3.out⟩
        case measure => show 9 - (0 + 1) < 9 - 0; decide
      · have hpos : 0 < R.size := by omega
        have hg0 : decide (0 < (R.size : Int)) = true := decide_eq_true (by omega)
        have hRn : ¬ R = ByteArray.empty := by intro e; rw [e] at hpos; exact absurd hpos (by decide)
        clear hend hcont hz
        go_wp2_with fail
        refine (HLR.out _).mono ?_
        rintro e w3 ⟨rfl, hw1⟩
        have HO1 := hide (HO.out.below hw1 (Nat.le_refl _))
        have HB1 := hide (HB.out.trans (hw1.mono HB.out.size))
        clear hw1 HLR
        by_cases hm0 : m = 0
        · subst hm0
          have hNN := HST.out (.inr hpos) (.inl ⟨rfl, hpos⟩)
          obtain ⟨e1, e2⟩ := HNO2.out hNN
          clear HSO2 HST HON HE HE2 hNN
          subst e1 e2
          go_wp2_with fail
          go_ret2
          exact NewPtI.nil_ (HX2.out.2.trans (HB1.out.mono HX2.out.2.size))
        · have hm1 : ((m : Int) == 0) = false := by rw [beq_eq_false_iff_ne]; omega
          by_cases hk9 : k = 8
          · subst hk9
            have hNN := HST.out (.inr hpos) (.inr rfl)
            obtain ⟨e1, e2⟩ := HNO2.out hNN
            clear HSO2 HST HON HE HE2 hNN
            subst e1 e2
            go_wp2_with fail
            go_ret2
            exact NewPtI.nil_ (HX2.out.2.trans (HB1.out.mono HX2.out.2.size))
          · have HN := hide (HON.out (.inr hpos) (.inl (by omega)) hk9)
            have hk1 : ((k : Int) == 8) = false := by rw [beq_eq_false_iff_ne]; omega
            clear HST HON
            go_wp2_with (at_builtin; rw [HE.out]; refine wpList_appT rfl _ rfl _ _ rfl rfl HO1.out (xpT s r k) rfl (by rw [xpL_len]; omega) HB1.out.size ?_; intro u w4 hown hgr)
            have HB3 := hide (HB1.out.grown hgr HB1.out.size (fun g hg => (HO1.out.lt hg).1))
            rw [HE2.out]
            rw [xpL_step] at hown
            obtain ⟨A', c', hu', hc'⟩ := hown.form
            rw [xpL_len] at hu' hc'
            subst hu'
            go_roundw
            case rel => exact ⟨k + 1, rfl, by omega, HN.out, hown, HB3.out⟩
            case measure =>
              show 9 - (k + 1) < 9 - k
              omega
end Go.Proofs.Ythbmfaogjaahoaa

namespace Go.Proofs.Ythbmfaogjaahoaa
open Go Go.RowKit
set_option linter.unusedSimpArgs false
set_option linter.unusedVariables false

set_option maxRecDepth 100000 in
set_option maxHeartbeats 1000000 in
theorem implSm_no {p k g : Int} (hb : fieldB p k g = false) (s : ByteArray) (cap : Int) (w : World) :
    Calls Try.prog 23 #[.agg #[.int .i64 p, .int .i64 k, .int .i64 g], .string s, .int .i64 cap] w (NewPtI 0 (fun _ => PtV.zero) 1 w) := by
  have HX := hide (Box.start w 36 p k g)
  obtain ⟨c0, c1, c2⟩ := HX.out.cells
  have HV := hide (show ∀ w, Calls Try.prog 55 #[.agg #[.int .i64 p, .int .i64 k, .int .i64 g]] w (Gives (.bool false) w) from fun w => by rw [← hb]; exact implValid p k g w)
  go_enter Try.func23, Try.ntmps23
  go_wp2_with fail
  refine (HV.out _).mono ?_
  rintro e w1 ⟨rfl, hb1⟩
  have HX1 := hide (HX.out.next hb1)
  clear hb1 c0 c1 c2
  go_wp2_with fail
  go_ret2
  exact NewPtI.nil_ HX1.out.2
set_option maxRecDepth 100000 in
set_option maxHeartbeats 1000000 in
theorem specSm_no {p k g : Int} (hb : fieldB p k g = false) (s : ByteArray) (cap : Int) (w : World) :
    Calls Try.prog 22 #[.agg #[.int .i64 p, .int .i64 k, .int .i64 g], .string s, .int .i64 cap] w (NewPtI 0 (fun _ => PtV.zero) 1 w) := by
  have HX := hide (Box.start w 36 p k g)
  obtain ⟨c0, c1, c2⟩ := HX.out.cells
  have HV := hide (show ∀ w, Calls Try.prog 51 #[.agg #[.int .i64 p, .int .i64 k, .int .i64 g]] w (Gives (.bool false) w) from fun w => by rw [← hb]; exact specIsField p k g w)
  go_enter Try.func22, Try.ntmps22
  go_wp2_with fail
  refine (HV.out _).mono ?_
  rintro e w1 ⟨rfl, hb1⟩
  have HX1 := hide (HX.out.next hb1)
  clear hb1 c0 c1 c2
  go_wp2_with fail
  go_ret2
  exact NewPtI.nil_ HX1.out.2
theorem apart_lt8 {v v1 : Value} {B : Nat} (h : ∀ g, v.ownBlock = some g → g < B) (h1 : ∀ g, v1.ownBlock = some g → B ≤ g) : (v.ownBlock = none ∨ v.ownBlock ≠ v1.ownBlock) ∧ (v1.ownBlock = none ∨ v1.ownBlock ≠ v.ownBlock) := by
  constructor
  · rcases hv : v.ownBlock with _ | g
    · exact .inl rfl
    · refine .inr fun e => ?_
      have a := h g hv
      have b := h1 g e.symm
      omega
  · rcases hv : v1.ownBlock with _ | g
    · exact .inl rfl
    · refine .inr fun e => ?_
      have a := h g e.symm
      have b := h1 g hv
      omega
theorem smL_le (W : Nat) (s : ByteArray) (cap : Int) : smL W s cap ≤ 8 := by
  unfold smL
  split
  · split
    · rename_i n h
      unfold smO at h
      split at h
      · exact (xpN_in h).2
      · cases h
    · omega
  · omega
theorem sm_both (p k g : Int) (s : ByteArray) (hs : s.size ≤ 1099511627776) (cap : Int) : ∃ (n : Nat) (X : Nat → PtV) (c : Int), n ≤ 8 ∧
    (∀ w : World, Calls Try.prog 22 #[.agg #[.int .i64 p, .int .i64 k, .int .i64 g], .string s, .int .i64 cap] w (NewPtI n X c w)) ∧
    (∀ w : World, Calls Try.prog 23 #[.agg #[.int .i64 p, .int .i64 k, .int .i64 g], .string s, .int .i64 cap] w (NewPtI n X c w)) := by
  rcases hb : fieldB p k g with _ | _
  · exact ⟨0, fun _ => PtV.zero, 1, by omega, fun w => specSm_no hb s cap w, fun w => implSm_no hb s cap w⟩
  · obtain ⟨q, mul, γ, hK, _⟩ := fieldB_open hb
    exact ⟨_, _, _, smL_le _ _ _, fun w => specSm hb hK s hs cap w, fun w => implSm hb hK s hs cap w⟩
end Go.Proofs.Ythbmfaogjaahoaa
