/-
  The laws' marks on a slice of parts.
  Condition: as each statement says.
-/
import Derived.Test.YthbmfaogjaahoaaRA
import Derived.Test.YthbmfaogjaahoaaDrawK
import Derived.Test.YthbmfaogjaahoaaTail2
namespace Go.Proofs.Ythbmfaogjaahoaa
open Go Go.RowKit
set_option linter.unusedSimpArgs false
set_option linter.unusedVariables false

theorem ret_strP {s t : ByteArray} (h : t = s) : Ending.returned (.string s) = .returned (.string t) := by rw [h]
/-- The digits of a number in front of a text. -/
def mtlP : Nat → Nat → ByteArray → ByteArray
  | 0, _, out => out
  | f + 1, k, out => if k = 0 then out else mtlP f (k / 10) (strOf [((48 + k % 10 : Nat) : Int)] ++ out)
theorem mtlP_zero (f : Nat) (out : ByteArray) : mtlP f 0 out = out := by cases f <;> simp [mtlP]
theorem mtlP_step {f k : Nat} (out : ByteArray) (h : k ≠ 0) : mtlP (f + 1) k out = mtlP f (k / 10) (strOf [((48 + k % 10 : Nat) : Int)] ++ out) := by rw [mtlP, if_neg h]
def mkTxtP (k : Nat) : ByteArray := ⟨#[109]⟩ ++ mtlP 10 k ⟨#[]⟩
def MtRelP (w : World) (k : Nat) (a o : Value) (wr : World) : Prop :=
  ∃ (f q : Nat) (out : ByteArray), a = .int .i64 q ∧ o = .string out ∧ q < 10 ^ f ∧ q ≤ 100000000 ∧ out.size ≤ 10 ∧ Hid (out.size + f = 10) ∧ Hid (mtlP f q out = mtlP 10 k ⟨#[]⟩) ∧ Below w.heap.size w wr

set_option maxRecDepth 100000 in
set_option maxHeartbeats 1000000 in
theorem markTextP (k : Nat) (h0 : 1 ≤ k) (h1 : k ≤ 100000000) (w : World) :
    Calls Try.prog 60 #[.int .i64 k] w (Gives (.string (mkTxtP k)) w) := by
  have hk0 : ¬ (k : Int) ≤ 0 := by omega
  have hp : k < 10 ^ 10 := Nat.lt_of_le_of_lt h1 (by decide)
  have HP := hide hp
  clear hp
  go_enter Try.func60, Try.ntmps60
  go_wp2_with fail
  go_loopw [0, 3] (fun a o wr => MtRelP w k a o wr) (fun a _ _ => (intOf a).toNat)
  case atStart => exact ⟨10, k, ⟨#[]⟩, rfl, rfl, HP.out, h1, by decide, hide rfl, rfl, Below.refl _ _⟩
  case round =>
    obtain ⟨f, q, out, rfl, rfl, hq, hq1, ho, hf, hm, hb⟩ := hrel
    have HF := hf
    have HM := hm
    have HQ := hide hq
    have HB := hide hb
    clear hf hm hb hq hk0
    by_cases hz : q = 0
    · subst hz
      have HE := hide (show (⟨#[109]⟩ ++ out : ByteArray) = mkTxtP k by unfold mkTxtP; rw [← HM.out, mtlP_zero])
      go_wp2_with fail
      go_ret
      exact ⟨ret_strP HE.out.symm, HB.out⟩
    · obtain ⟨f', hf'⟩ : ∃ f', f = f' + 1 := ⟨f - 1, by
        rcases Nat.eq_zero_or_pos f with e | e
        · have h := HQ.out; rw [e] at h; simp at h; omega
        · omega⟩
      have HM2 := hide (show mtlP f' (q / 10) (strOf [((48 + q % 10 : Nat) : Int)] ++ out) = mtlP 10 k ⟨#[]⟩ by rw [← mtlP_step out hz, ← hf']; exact HM.out)
      have HQ2 := hide (show q / 10 < 10 ^ f' from Nat.div_lt_of_lt_mul (by have h := HQ.out; rw [hf', Nat.pow_succ, Nat.mul_comm] at h; exact h))
      have ho9 : out.size ≤ 9 := by have := HF.out; omega
      have HF2 := hide (show out.size + 1 + f' = 10 by have := HF.out; omega)
      obtain ⟨d, hd⟩ : ∃ d, q % 10 = d := ⟨_, rfl⟩
      obtain ⟨e, he⟩ : ∃ e, q / 10 = e := ⟨_, rfl⟩
      have hd10 : d < 10 := by omega
      have he2 : e < q := by omega
      have hmI : (q : Int) % 10 = (d : Int) := by omega
      have hdI : (q : Int) / 10 = (e : Int) := by omega
      obtain ⟨x, hx⟩ : ∃ x, 48 + d = x := ⟨_, rfl⟩
      have hxI : (48 : Int) + (d : Int) = (x : Int) := by omega
      have hw8 : IntKind.u8.wrap (x : Int) = (x : Int) := by rw [IntKind.wrap]; simp [IntKind.signed, IntKind.bits]; omega
      rw [hd, he, hx] at HM2
      rw [he] at HQ2
      have hcv := run_str (P := Try.prog) (wr.alloc (.cells #[.int .u8 (x : Int)] 5)) (u := 9) elem8 Try.underlying5 Try.underlying9 1 (ints_one wr 5 .u8 (x : Int))
      have hsz : (strOf [(x : Int)]).size = 1 := rfl
      have HSZ := hide (show (strOf [(x : Int)] ++ out).size = out.size + 1 by rw [ByteArray.size_append, hsz]; omega)
      obtain ⟨sx, hsx⟩ : ∃ sx, strOf [(x : Int)] = sx := ⟨_, rfl⟩
      rw [hsx] at hcv hsz HM2 HSZ
      have hsz2 : sx.size ≤ 1 := by omega
      have HB2 := hide (HB.out.alloc HB.out.size (.cells #[.int .u8 (x : Int)] 5))
      clear hd he hx hf' hsx hsz
      go_wp2_with fail
      go_roundw
      case rel => exact ⟨f', e, sx ++ out, rfl, rfl, HQ2.out, by omega, by rw [HSZ.out]; omega, by rw [HSZ.out]; exact HF2.out, HM2.out, HB2.out⟩
      case measure => simp [intOf]; omega


/-- The marks of a slice of parts, from a number on. -/
def mkP (k0 : Nat) (j : Nat) : PtV := ⟨((k0 + 4 * j : Nat) : Int), ((k0 + 4 * j + 1 : Nat) : Int), ((k0 + 4 * j + 2 : Nat) : Int), mkTxtP (k0 + 4 * j + 3)⟩
def mkFP (k0 j : Nat) (f : Nat → Value) (i : Nat) : Value := if i < j * 4 then ptV (mkP k0) i else f i
theorem mkFP_step (k0 j q : Nat) (f : Nat → Value) (hq : q = k0 + 4 * j) : (fun i => if i = j * 4 + 3 then .string (mkTxtP (q + 3)) else if i = j * 4 + 2 then .int .i64 ((q + 2 : Nat) : Int) else if i = j * 4 + 1 then .int .i64 ((q + 1 : Nat) : Int) else if i = j * 4 then .int .i64 ((q : Nat) : Int) else mkFP k0 j f i) = mkFP k0 (j + 1) f := by
  subst hq
  obtain ⟨h0, h1, h2, h3⟩ := ptV_at (mkP k0) j
  funext i
  unfold mkFP
  split
  · subst i; rw [if_pos (by omega), h3]; rfl
  · split
    · subst i; rw [if_pos (by omega), h2]; rfl
    · split
      · subst i; rw [if_pos (by omega), h1]; rfl
      · split
        · subst i; rw [if_pos (by omega), h0]; rfl
        · by_cases hj : i < j * 4
          · rw [if_pos hj, if_pos (by omega)]
          · rw [if_neg hj, if_neg (by omega)]
def MpkRel (w : World) (base n k0 : Nat) (g c : Nat) (f : Nat → Value) (a i : Value) (wr : World) : Prop :=
  ∃ j q : Nat, j ≤ n ∧ Hid (q = k0 + 4 * j) ∧ q ≤ 10000000 ∧ 1 ≤ q ∧ a = .int .i64 q ∧ i = .int .i64 j ∧ OwnPt wr base (.slice (some ⟨g, 0, none⟩) n c) n (mkFP k0 j f) ∧ w.grownBy wr (some g)
/-- What marking leaves. -/
def MarkPt (n k0 base : Nat) (v : Value) (w : World) (x : Ending) (w' : World) : Prop :=
  x = .returned (.int .i64 ((k0 + 4 * n : Nat) : Int)) ∧ OwnPt w' base v n (ptV (mkP k0)) ∧ w.grownBy w' v.ownBlock

set_option maxRecDepth 100000 in
set_option maxHeartbeats 2000000 in
theorem markPts (A : Option Addr) (n c base k0 : Nat) (f : Nat → Value) (w : World) (hO : OwnPt w base (.slice A n c) n f) (hn : n ≤ 1048576) (h0 : 1 ≤ k0) (h1 : k0 ≤ 10000) :
    Calls Try.prog 25 #[.slice A n c, .int .i64 k0] w (MarkPt n k0 base (.slice A n c) w) := by
  rcases Nat.eq_zero_or_pos n with hz | hpos
  · subst hz
    have HF := hide (show MarkPt 0 k0 base (.slice A 0 c) w (.returned (.int .i64 k0)) w from ⟨rfl, hO.congr (fun i hi => absurd hi (by omega)), World.grownBy.refl _ _⟩)
    clear hO
    go_enter Try.func25, Try.ntmps25
    go_wp2_with fail
    go_loop [1, 5] (fun a i => a = .int .i64 (k0 : Int) ∧ i = .int .i64 0) (fun _ _ => 0)
    case atStart => exact ⟨rfl, rfl⟩
    case round =>
      obtain ⟨rfl, rfl⟩ := hrel
      go_wp2_with fail
      go_ret
      exact HF.out
  · obtain ⟨g, c', hv, hg1, hg2, hc⟩ := hO.form hpos
    simp only [Value.slice.injEq] at hv
    obtain ⟨rfl, _, rfl⟩ := hv
    have HO := hide (hO.congr (f' := mkFP k0 0 f) (fun i hi => by unfold mkFP; rw [if_neg (by omega)]))
    clear hO hpos
    go_enter Try.func25, Try.ntmps25
    go_wp2_with fail
    go_loopw [1, 5] (fun a i wr => MpkRel w base n k0 g c f a i wr) (fun _ i _ => n - (intOf i).toNat)
    case atStart => exact ⟨0, k0, Nat.zero_le _, rfl, by omega, h0, rfl, rfl, HO.out, World.grownBy.refl _ _⟩
    case round =>
      clear HO
      obtain ⟨j, q, hj, hq, hq1, hq0, rfl, rfl, ho, hg⟩ := hrel
      have HQ := hq
      have HO := hide ho
      have HG := hide hg
      clear hq ho hg
      by_cases hlt : j < n
      · have f0 := HO.out.frozen (j * 4)
        have f1 := HO.out.frozen (j * 4 + 1)
        have f2 := HO.out.frozen (j * 4 + 2)
        have z0 := HO.out.cell (i := j * 4) (by omega)
        have z1 := HO.out.cell (i := j * 4 + 1) (by omega)
        have z2 := HO.out.cell (i := j * 4 + 2) (by omega)
        obtain ⟨y0, hy0⟩ : ∃ y, mkFP k0 j f (j * 4) = y := ⟨_, rfl⟩
        obtain ⟨y1, hy1⟩ : ∃ y, mkFP k0 j f (j * 4 + 1) = y := ⟨_, rfl⟩
        obtain ⟨y2, hy2⟩ : ∃ y, mkFP k0 j f (j * 4 + 2) = y := ⟨_, rfl⟩
        rw [hy0] at z0
        rw [hy1] at z1
        rw [hy2] at z2
        obtain ⟨q1, hqe1⟩ : ∃ q1, q + 1 = q1 := ⟨_, rfl⟩
        obtain ⟨q2, hqe2⟩ : ∃ q2, q + 2 = q2 := ⟨_, rfl⟩
        obtain ⟨q3, hqe3⟩ : ∃ q3, q + 3 = q3 := ⟨_, rfl⟩
        obtain ⟨q4, hqe4⟩ : ∃ q4, q + 4 = q4 := ⟨_, rfl⟩
        have hw1 : IntKind.i64.wrap ((q : Int) + 1) = (q1 : Int) := by rw [IntWalk.i64_in _ ⟨by omega, by omega⟩]; omega
        have hw2 : IntKind.i64.wrap ((q1 : Int) + 1) = (q2 : Int) := by rw [IntWalk.i64_in _ ⟨by omega, by omega⟩]; omega
        have hw3 : IntKind.i64.wrap ((q2 : Int) + 1) = (q3 : Int) := by rw [IntWalk.i64_in _ ⟨by omega, by omega⟩]; omega
        have hw4 : IntKind.i64.wrap ((q3 : Int) + 1) = (q4 : Int) := by rw [IntWalk.i64_in _ ⟨by omega, by omega⟩]; omega
        obtain ⟨p1, g1⟩ := HO.out.put (j * 4) (.int .i64 (q : Int))
        obtain ⟨p2, g2⟩ := p1.put (j * 4 + 1) (.int .i64 (q1 : Int))
        obtain ⟨p3, g3⟩ := p2.put (j * 4 + 2) (.int .i64 (q2 : Int))
        have HO1 := hide p3
        have HG1 := hide (grown_trans HG.out (grown_trans (grown_trans g1 g2) g3))
        have HMT := hide (fun w' => markTextP q3 (by omega) (by omega) w')
        have HST := hide (show (fun i => if i = j * 4 + 3 then .string (mkTxtP q3) else if i = j * 4 + 2 then .int .i64 (q2 : Int) else if i = j * 4 + 1 then .int .i64 (q1 : Int) else if i = j * 4 then .int .i64 (q : Int) else mkFP k0 j f i) = mkFP k0 (j + 1) f by
          rw [← hqe1, ← hqe2, ← hqe3]; exact mkFP_step k0 j q f HQ.out)
        have HQ4 := hide (show q4 = k0 + 4 * (j + 1) by have := HQ.out; omega)
        have hq41 : q4 ≤ 10000000 := by have := HQ.out; omega
        have hq40 : 1 ≤ q4 := by omega
        clear p1 p2 p3 g1 g2 g3 hy0 hy1 hy2 hqe1 hqe2 hqe3 hqe4
        go_wp2_with fail
        obtain ⟨ws, hws⟩ : ∃ ws, ((wr.setCell ⟨g, j * 4, none⟩ (.int .i64 (q : Int))).setCell ⟨g, j * 4 + 1, none⟩ (.int .i64 (q1 : Int))).setCell ⟨g, j * 4 + 2, none⟩ (.int .i64 (q2 : Int)) = ws := ⟨_, rfl⟩
        rw [hws] at HO1 HG1 ⊢
        clear hws f0 z0 f1 z1 f2 z2
        refine (HMT.out _).mono ?_
        rintro e w2 ⟨rfl, hb2⟩
        have HO2 := hide (HO1.out.next hb2)
        have HG2 := hide (show w.grownBy w2 (some g) from grown_trans HG1.out ⟨hb2.os, hb2.tape, hb2.output, hb2.size, fun i hi _ => hb2.block i hi⟩)
        clear hb2 HO1 HG1 HMT
        have f3 := HO2.out.frozen (j * 4 + 3)
        have z3 := HO2.out.cell (i := j * 4 + 3) (by omega)
        obtain ⟨y3, hy3⟩ : ∃ y, w2.cell? ⟨g, j * 4 + 3, none⟩ = some y := ⟨_, z3⟩
        clear z3
        obtain ⟨p1, p2⟩ := HO2.out.put (j * 4 + 3) (.string (mkTxtP q3))
        rw [HST.out] at p1
        have HO3 := hide p1
        have HG3 := hide (grown_trans HG2.out p2)
        clear p1 p2
        obtain ⟨tx, htx⟩ : ∃ tx, mkTxtP q3 = tx := ⟨_, rfl⟩
        rw [htx] at HO3 HG3 ⊢
        clear htx HST
        go_wp2_with fail
        go_roundw
        case rel => exact ⟨j + 1, q4, by omega, HQ4, hq41, hq40, rfl, by go_num, HO3.out, HG3.out⟩
        case measure => simp [intOf]; omega
      · have hjn : j = n := by omega
        have HF := hide (show MarkPt n k0 base (.slice (some ⟨g, 0, none⟩) n c) w (.returned (.int .i64 q)) wr from ⟨by rw [HQ.out, hjn], HO.out.congr (fun i hi => by unfold mkFP; rw [if_pos (by omega)]), HG.out⟩)
        clear hjn
        go_wp2_with fail
        go_ret
        exact HF.out

def HpkRel (w : World) (n k0 : Nat) (a i : Value) (wr : World) : Prop :=
  ∃ j q : Nat, j ≤ n ∧ Hid (q = k0 + 4 * j) ∧ q ≤ 10000000 ∧ 1 ≤ q ∧ a = .int .i64 q ∧ i = .int .i64 j ∧ Below w.heap.size w wr
set_option maxRecDepth 100000 in
set_option maxHeartbeats 2000000 in
theorem heldPts (A : Option Addr) (n c B k0 : Nat) (w : World) (hI : Pts w B A n (mkP k0)) (hB : B ≤ w.heap.size) (hn : n ≤ 1048576) (h0 : 1 ≤ k0) (h1 : k0 ≤ 10000) :
    Calls Try.prog 26 #[.slice A n c, .int .i64 k0] w (Gives (.int .i64 ((k0 + 4 * n : Nat) : Int)) w) := by
  have HI := hide hI
  clear hI
  go_enter Try.func26, Try.ntmps26
  go_wp2_with fail
  go_loopw [1, 5] (fun a i wr => HpkRel w n k0 a i wr) (fun _ i _ => n - (intOf i).toNat)
  case atStart => exact ⟨0, k0, Nat.zero_le _, rfl, by omega, h0, rfl, rfl, Below.refl _ _⟩
  case round =>
    obtain ⟨j, q, hj, hq, hq1, hq0, rfl, rfl, hb⟩ := hrel
    have HQ := hq
    have HB := hide hb
    clear hq hb
    by_cases hlt : j < n
    · obtain ⟨b, off, rfl, hbb, hc⟩ := HI.out (by omega)
      obtain ⟨q1, hqe1⟩ : ∃ q1, q + 1 = q1 := ⟨_, rfl⟩
      obtain ⟨q2, hqe2⟩ : ∃ q2, q + 2 = q2 := ⟨_, rfl⟩
      obtain ⟨q3, hqe3⟩ : ∃ q3, q + 3 = q3 := ⟨_, rfl⟩
      obtain ⟨q4, hqe4⟩ : ∃ q4, q + 4 = q4 := ⟨_, rfl⟩
      have hw1 : IntKind.i64.wrap ((q : Int) + 1) = (q1 : Int) := by rw [IntWalk.i64_in _ ⟨by omega, by omega⟩]; omega
      have hw2 : IntKind.i64.wrap ((q1 : Int) + 1) = (q2 : Int) := by rw [IntWalk.i64_in _ ⟨by omega, by omega⟩]; omega
      have hw3 : IntKind.i64.wrap ((q2 : Int) + 1) = (q3 : Int) := by rw [IntWalk.i64_in _ ⟨by omega, by omega⟩]; omega
      have hw4 : IntKind.i64.wrap ((q3 : Int) + 1) = (q4 : Int) := by rw [IntWalk.i64_in _ ⟨by omega, by omega⟩]; omega
      have hX : mkP k0 j = ⟨(q : Int), (q1 : Int), (q2 : Int), mkTxtP q3⟩ := by unfold mkP; rw [← HQ.out, hqe1, hqe2, hqe3]
      have HCA := hide (fun (wx : World) (hx : Below w.heap.size w wx) => (hX ▸ hc j hlt : PtAt w b (off + j * 4) ⟨(q : Int), (q1 : Int), (q2 : Int), mkTxtP q3⟩).below hx (by omega))
      unfold PtAt at HCA
      simp only at HCA
      have HMT := hide (fun w' => markTextP q3 (by omega) (by omega) w')
      have n0 : ((q : Int) != (q : Int)) = false := by simp
      have n1 : ((q1 : Int) != (q1 : Int)) = false := by simp
      have n2 : ((q2 : Int) != (q2 : Int)) = false := by simp
      have HQ4 := hide (show q4 = k0 + 4 * (j + 1) by have := HQ.out; omega)
      have hq41 : q4 ≤ 10000000 := by have := HQ.out; omega
      have hq40 : 1 ≤ q4 := by omega
      obtain ⟨tx, htx⟩ : ∃ tx, mkTxtP q3 = tx := ⟨_, rfl⟩
      rw [htx] at HCA HMT
      obtain ⟨e0, e1, e2, e3⟩ := HCA.out _ HB.out
      have HD := hide (HCA.out _ HB.out.drew).2.2.2
      clear hX htx hc hqe1 hqe2 hqe3 hqe4
      go_wp2_with fail
      refine tail_begin (fun w' => w'.cell? ⟨b, off + j * 4 + 3, none⟩ = some (.string tx)) 8 (by kernel_rfl) HD.out (fun hS' => ?_)
      clear e0 e1 e2 e3
      refine tail_take2 0 rfl (by kernel_rfl) (by kernel_rfl) (by kernel_rfl) (by decide) (fun _ _ _ h => h) (by rfl) (v := ?_) ?_ (by assumption) ?_
      rotate_left 1
      · intro w' hS'; (try dsimp only at hS'); go_simp; try with_reducible rfl
      try simp only [Act.put, List.setIfInBounds_toArray, List.set_cons_zero, List.set_cons_succ]
      refine tail_take2 1 rfl (by kernel_rfl) (by kernel_rfl) (by kernel_rfl) (by decide) (fun _ _ _ h => h) (by rfl) (v := ?_) ?_ (by assumption) ?_
      rotate_left 1
      · intro w' hS'; (try dsimp only at hS'); go_simp; try with_reducible rfl
      try simp only [Act.put, List.setIfInBounds_toArray, List.set_cons_zero, List.set_cons_succ]
      refine tail_take2 2 rfl (by kernel_rfl) (by kernel_rfl) (by kernel_rfl) (by decide) (fun _ _ _ h => h) (by rfl) (v := ?_) ?_ (by assumption) ?_
      rotate_left 1
      · intro w' hS'; (try dsimp only at hS'); go_simp; try with_reducible rfl
      try simp only [Act.put, List.setIfInBounds_toArray, List.set_cons_zero, List.set_cons_succ]
      refine tail_take2 3 rfl (by kernel_rfl) (by kernel_rfl) (by kernel_rfl) (by decide) (fun _ _ _ h => h) (by rfl) (v := ?_) ?_ (by assumption) ?_
      rotate_left 1
      · intro w' hS'; (try dsimp only at hS'); go_simp; try with_reducible rfl
      try simp only [Act.put, List.setIfInBounds_toArray, List.set_cons_zero, List.set_cons_succ]
      refine tail_take2 4 rfl (by kernel_rfl) (by kernel_rfl) (by kernel_rfl) (by decide) (fun _ _ _ h => h) (by rfl) (v := ?_) ?_ (by assumption) ?_
      rotate_left 1
      · intro w' hS'; (try dsimp only at hS'); go_simp; try with_reducible rfl
      try simp only [Act.put, List.setIfInBounds_toArray, List.set_cons_zero, List.set_cons_succ]
      refine tail_take2 5 rfl (by kernel_rfl) (by kernel_rfl) (by kernel_rfl) (by decide) (fun _ _ _ h => h) (by rfl) (v := ?_) ?_ (by assumption) ?_
      rotate_left 1
      · intro w' hS'; (try dsimp only at hS'); go_simp; try with_reducible rfl
      try simp only [Act.put, List.setIfInBounds_toArray, List.set_cons_zero, List.set_cons_succ]
      refine tail_call 6 rfl (by kernel_rfl) rfl (fun K' hK => ?_)
      go_simp
      go_at_call 60
      refine (HMT.out _).mono ?_
      rintro e w2 ⟨rfl, hb2⟩
      have HB2 := hide (HB.out.drew.trans (hb2.mono HB.out.drew.size))
      clear hb2
      refine hK.out _ _ (by (try dsimp only); exact (HCA.out _ HB2.out).2.2.2) (fun hS' => ?_)
      clear hK K'
      try simp only [Act.put, List.setIfInBounds_toArray, List.set_cons_zero, List.set_cons_succ]
      refine tail_take2 7 rfl (by kernel_rfl) (by kernel_rfl) (by kernel_rfl) (by decide) (fun _ _ _ h => h) (by rfl) (v := ?_) ?_ (by assumption) ?_
      rotate_left 1
      · intro w' hS'; (try dsimp only at hS'); go_simp; try with_reducible rfl
      try simp only [Act.put, List.setIfInBounds_toArray, List.set_cons_zero, List.set_cons_succ]
      refine tail_end (by kernel_rfl) ?_
      clear hS'
      go_wp2_with fail
      go_roundw
      case rel => exact ⟨j + 1, q4, by omega, HQ4, hq41, hq40, rfl, by go_num, HB2.out⟩
      case measure => simp [intOf]; omega
    · have hjn : j = n := by omega
      have HE := hide (show ((k0 + 4 * n : Nat) : Int) = (q : Int) by rw [HQ.out, hjn])
      clear hjn
      go_wp2_with fail
      go_ret
      exact ⟨ret_int HE.out, HB.out⟩
end Go.Proofs.Ythbmfaogjaahoaa
