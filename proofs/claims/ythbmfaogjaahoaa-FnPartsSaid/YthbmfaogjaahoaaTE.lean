/-
  The width of a field, of the model and of the program; whether elements are of a field; whether a number is a capacity.
  The bits of elements, of the model and of the program.
  ElementBits, of the model and of the program.
  Condition: as each statement says.
-/
import Derived.Test.YthbmfaogjaahoaaTD
import Derived.Test.YthbmfaogjaahoaaTC
import Derived.Test.YthbmfaogjaahoaaSpecIn
import Derived.Test.YthbmfaogjaahoaaAppend
import Derived.Test.YthbmfaogjaahoaaDist
import Derived.Test.YthbmfaogjaahoaaLawKit
namespace Go.Proofs.Ythbmfaogjaahoaa
open Go.RowKit
set_option linter.unusedSimpArgs false
set_option linter.unusedVariables false

def PyAllRel (w : World) (p k g : Int) (q n : Nat) (zs : List Int) (i : Value) (wr : World) : Prop :=
  ∃ j : Nat, j ≤ n ∧ i = .int .i64 j ∧ Hid ((zs.take j).all (elB q) = true) ∧ Box w wr 36 p k g

set_option maxHeartbeats 1000000 in
theorem pyHasAll {p k g : Int} {q : Nat} {mul : Nat → Nat → Nat} (hK : Kd p k g q mul) (A : Option Addr) (n c B : Nat) (zs : List Int) (w : World) (hI : Ints .i64 w B A n zs) (hB : B ≤ w.heap.size) (hn : n ≤ 1099511627776) :
    Calls Try.prog 73 #[.agg #[.int .i64 p, .int .i64 k, .int .i64 g], .slice A n c] w (Gives (.bool (zs.all (elB q))) w) := by
  have HX := hide (Box.start w 36 p k g)
  have HI := hide hI
  have hl := hide hI.len
  clear hI
  go_enter Try.func73, Try.ntmps73
  go_wp2_with fail
  go_loopw [9] (fun i wr => PyAllRel w p k g q n zs i wr) (fun i _ => n - (intOf i).toNat)
  case atStart => exact ⟨0, by omega, rfl, by simp [Hid], HX⟩
  case round =>
    clear HX
    obtain ⟨j, hj, rfl, HA, HX⟩ := hrel
    have HX := hide HX
    obtain ⟨c0, c1, c2⟩ := HX.out.cells
    by_cases hlt : j < n
    · obtain ⟨b, off, x, rfl, hb, hx, hc⟩ := (HI.out.below (HX.out.2.mono hB)).at_ hlt
      have hx' := hide hx
      clear hx
      rcases he : elB q x with _ | _
      · have HF := hide (fAll_no hx' he)
        have he' : decide (0 ≤ x ∧ x < (q : Int)) = false := he
        go_wp2_with fail
        refine (implHasF hK x _).mono ?_
        rw [he']
        clear he he'
        rintro e w2 ⟨rfl, hb2⟩
        have HX2 := hide (HX.out.next hb2)
        clear hb2
        go_wp2_with fail
        go_ret
        exact ⟨ret_bool HF, HX2.out.2⟩
      · have HN := hide (all_snoc HA.out hx' he)
        have he' : decide (0 ≤ x ∧ x < (q : Int)) = true := he
        go_wp2_with fail
        refine (implHasF hK x _).mono ?_
        rw [he']
        clear he he'
        rintro e w2 ⟨rfl, hb2⟩
        have HX2 := hide (HX.out.next hb2)
        clear hb2
        go_wp2_with fail
        go_roundw
        case rel => exact ⟨j + 1, by omega, by go_num, HN, HX2⟩
        case measure => simp [intOf]; omega
    · have HF := hide (show zs.all (elB q) = true by
        have h1 := HA.out
        rwa [List.take_of_length_le (by rw [hl.out]; omega)] at h1)
      go_wp2_with fail
      go_ret
      exact ⟨ret_bool HF, HX.out.2⟩

/-- The width of a field of a size. -/
def wdt (q : Nat) : Nat := q.log2
theorem wdt_is {q : Nat} (h3 : 3 ≤ q) (h : q ≤ 1021) : 1 ≤ wdt q ∧ wdt q ≤ 9 ∧ 2 ^ wdt q ≤ q ∧ q < 2 ^ (wdt q + 1) := by
  have h1 := Nat.log2_self_le (n := q) (by omega)
  have h2 := Nat.lt_log2_self (n := q)
  refine ⟨?_, ?_, h1, h2⟩
  · rcases Nat.lt_or_ge (wdt q) 1 with h0 | h0
    · have : wdt q = 0 := by omega
      unfold wdt at this; rw [this] at h2; omega
    · exact h0
  · rcases Nat.lt_or_ge 9 (wdt q) with h0 | h0
    · have : 2 ^ 10 ≤ 2 ^ wdt q := Nat.pow_le_pow_right (by omega) h0
      have h4 : 2 ^ wdt q ≤ q := h1
      omega
    · exact h0
theorem wdt_step {q a : Nat} (h3 : 3 ≤ q) (h : q ≤ 1021) : (2 ^ (a + 1) ≤ q ↔ a + 1 ≤ wdt q) := by
  obtain ⟨_, _, h1, h2⟩ := wdt_is h3 h
  constructor
  · intro hh
    rcases Nat.lt_or_ge (wdt q) (a + 1) with h0 | h0
    · have := Nat.pow_le_pow_right (n := 2) (by omega) h0
      omega
    · exact h0
  · intro hh
    exact Nat.le_trans (Nat.pow_le_pow_right (by omega) hh) h1
def WdRel (w : World) (p k g : Int) (q : Nat) (i : Value) (wr : World) : Prop :=
  ∃ a : Nat, a ≤ wdt q ∧ i = .int .i64 a ∧ Box w wr 36 p k g

set_option maxRecDepth 100000 in
set_option maxHeartbeats 1000000 in
theorem specWd {p k g : Int} {q : Nat} {mul : Nat → Nat → Nat} (hK : Kd p k g q mul) (w : World) :
    Calls Try.prog 53 #[.agg #[.int .i64 p, .int .i64 k, .int .i64 g]] w (Gives (.int .i64 (wdt q : Nat)) w) := by
  have HX := hide (Box.start w 36 p k g)
  obtain ⟨hq3, hq⟩ := hK.big
  obtain ⟨hw1, hw9, _, _⟩ := wdt_is hq3 hq
  go_enter Try.func53, Try.ntmps53
  go_wp2_with fail
  go_loopw [3] (fun i wr => WdRel w p k g q i wr) (fun i _ => 10 - (intOf i).toNat)
  case atStart => exact ⟨0, by omega, rfl, HX.out⟩
  case round =>
    clear HX
    obtain ⟨a, ha, rfl, hX⟩ := hrel
    have HX := hide hX
    have HST := hide (wdt_step (a := a) hq3 hq)
    obtain ⟨c0, c1, c2⟩ := HX.out.cells
    obtain ⟨t2, ht2⟩ : ∃ t2 : Nat, 2 ^ (a + 1) = t2 := ⟨_, rfl⟩
    have hsub : (2 : Int) * 2 ^ a = (t2 : Int) := by rw [← ht2, Nat.pow_succ, Int.natCast_mul, Int.natCast_pow, Int.mul_comm]; rfl
    have ht2b : t2 ≤ 1024 := by rw [← ht2]; exact Nat.le_trans (Nat.pow_le_pow_right (by omega) (show a + 1 ≤ 10 by omega)) (by decide)
    have hwt : wrap64 (t2 : Int) = (t2 : Int) := IntWalk.wrap64_in _ ⟨by omega, by omega⟩
    rw [ht2] at HST
    clear hX ht2
    go_wp2_with fail
    refine (specSize hK _).mono ?_
    rintro e w2 ⟨rfl, hb2⟩
    have HX2 := hide (HX.out.next hb2)
    clear hb2 c0 c1 c2
    by_cases hle : t2 ≤ q
    · have hli : (t2 : Int) ≤ (q : Int) := by omega
      have hst := HST.out.1 hle
      have hwa : IntKind.i64.wrap ((a : Int) + 1) = ((a + 1 : Nat) : Int) := by rw [IntWalk.i64_in _ ⟨by omega, by omega⟩]; omega
      obtain ⟨a1, ha1⟩ : ∃ a1, a + 1 = a1 := ⟨_, rfl⟩
      rw [ha1] at hwa hst
      have HA1 := hide ha1
      clear ha1
      go_wp2_with fail
      go_roundw
      case rel => exact ⟨a1, hst, rfl, HX2.out⟩
      case measure => have := HA1.out; simp [intOf]; omega
    · have hli : ¬ (t2 : Int) ≤ (q : Int) := by omega
      have haw : a = wdt q := by
        have := HST.out
        rcases Nat.lt_or_ge a (wdt q) with h | h
        · exact absurd (this.2 h) hle
        · omega
      subst haw
      go_wp2_with fail
      go_ret
      exact ⟨rfl, HX2.out.2⟩

set_option maxRecDepth 100000 in
set_option maxHeartbeats 4000000 in
theorem implLen64N (q : Nat) (h3 : 3 ≤ q) (hq : q ≤ 1021) (w : World) :
    Calls Try.prog 86 #[.int .u64 q] w fun e w' => e = .returned (.int .i64 ((wdt q + 1 : Nat) : Int)) ∧ w' = w := by
  have h32 : ¬ (4294967296 : Int) ≤ (q : Int) := by omega
  have h16 : ¬ (65536 : Int) ≤ (q : Int) := by omega
  go_enter Try.func86, Try.ntmps86
  generalize hT : ByteArray.mk _ = tb
  have hs : tb.size = 256 := by rw [← hT]; kernel_rfl
  have hB : ∀ k : Fin 256, (bytesI tb)[k.val]? = some (((if k.val = 0 then 0 else k.val.log2 + 1) : Nat) : Int) := by rw [← hT]; decide +kernel
  clear hT
  have hlb : q.log2 ≤ 9 := (wdt_is h3 hq).2.1
  by_cases h8 : q < 256
  · have h8i : ¬ (256 : Int) ≤ (q : Int) := by omega
    have hqs : q < tb.size := by omega
    obtain ⟨y, hy, hy2, hy0, hy1⟩ := byteAt tb hqs
    have h1 := hB ⟨q, h8⟩
    rw [hy2, if_neg (show ¬ q = 0 by omega)] at h1
    obtain rfl := Option.some.inj h1
    have hqI : (q : Int) < (tb.size : Int) := by omega
    have hwy : IntKind.i64.wrap ((q.log2 + 1 : Nat) : Int) = ((q.log2 + 1 : Nat) : Int) := IntWalk.i64_in _ ⟨by omega, by omega⟩
    have hwu : IntKind.u8.wrap (q : Int) = (q : Int) := by rw [IntKind.wrap_u8]; omega
    have HG := hide (show ((wdt q + 1 : Nat) : Int) = ((q.log2 + 1 : Nat) : Int) from rfl)
    obtain ⟨lg, hlg⟩ : ∃ lg, q.log2 + 1 = lg := ⟨_, rfl⟩
    rw [hlg] at hy hy1 hwy HG
    rw [HG.out]
    clear hB hy2 h1 hlg h3 hq HG
    go_wp2_with fail
    go_ret
    exact ⟨rfl, rfl⟩
  · have h8i : (256 : Int) ≤ (q : Int) := by omega
    obtain ⟨x, hx⟩ : ∃ x, q / 256 = x := ⟨_, rfl⟩
    have hx4 : 1 ≤ x ∧ x ≤ 3 := by omega
    have hqs : x < tb.size := by omega
    have hx256 : x < 256 := by omega
    obtain ⟨y, hy, hy2, hy0, hy1⟩ := byteAt tb hqs
    have h1 := hB ⟨x, hx256⟩
    rw [hy2, if_neg (show ¬ x = 0 by omega)] at h1
    obtain rfl := Option.some.inj h1
    have hqI : (x : Int) < (tb.size : Int) := by omega
    have hxi : (q : Int) / 256 = (x : Int) := by omega
    have hlx : x.log2 + 8 = q.log2 := by
      obtain ⟨_, _, p1, p2⟩ := wdt_is h3 hq
      have p1' : 2 ^ q.log2 ≤ q := p1
      have p2' : q < 2 ^ (q.log2 + 1) := p2
      have q8 : 8 ≤ q.log2 := by
        rcases Nat.lt_or_ge q.log2 8 with h | h
        · have : 2 ^ (q.log2 + 1) ≤ 2 ^ 8 := Nat.pow_le_pow_right (by omega) h
          omega
        · exact h
      rcases (show q.log2 = 8 ∨ q.log2 = 9 by omega) with h | h
      · rw [h] at p1' p2' ⊢
        have : x = 1 := by omega
        subst this; rfl
      · rw [h] at p1' p2' ⊢
        rcases (show x = 2 ∨ x = 3 by omega) with rfl | rfl <;> rfl
    have hwy : IntKind.i64.wrap ((x.log2 + 1 : Nat) : Int) = ((x.log2 + 1 : Nat) : Int) := IntWalk.i64_in _ ⟨by omega, by omega⟩
    have hwa : IntKind.i64.wrap (8 + ((x.log2 + 1 : Nat) : Int)) = ((wdt q + 1 : Nat) : Int) := by
      rw [IntWalk.i64_in _ ⟨by omega, by omega⟩]; unfold wdt; omega
    have hwu : IntKind.u8.wrap (x : Int) = (x : Int) := by rw [IntKind.wrap_u8]; omega
    obtain ⟨lg, hlg⟩ : ∃ lg, x.log2 + 1 = lg := ⟨_, rfl⟩
    obtain ⟨W1, hW1⟩ : ∃ W1, wdt q + 1 = W1 := ⟨_, rfl⟩
    rw [hlg] at hy hy1 hwy hwa
    rw [hW1] at hwa ⊢
    clear hB hy2 h1 hlg h3 hq hlx hlb hx hW1
    go_wp2_with fail
    go_ret
    exact ⟨rfl, rfl⟩

set_option maxRecDepth 100000 in
set_option maxHeartbeats 1000000 in
theorem implWd {p k g : Int} {q : Nat} {mul : Nat → Nat → Nat} (hK : Kd p k g q mul) (w : World) :
    Calls Try.prog 57 #[.agg #[.int .i64 p, .int .i64 k, .int .i64 g]] w (Gives (.int .i64 (wdt q : Nat)) w) := by
  have HX := hide (Box.start w 36 p k g)
  obtain ⟨c0, c1, c2⟩ := HX.out.cells
  obtain ⟨hq3, hq⟩ := hK.big
  obtain ⟨hw1, hw9, _, _⟩ := wdt_is hq3 hq
  have HSZ := hide (implSize hK)
  have HL := hide (fun w => implLen64N q hq3 hq w)
  have hwu : IntKind.u64.wrap (q : Int) = (q : Int) := by rw [IntKind.wrap_u64]; omega
  have hwm : IntKind.i64.wrap (((wdt q + 1 : Nat) : Int) - 1) = ((wdt q : Nat) : Int) := by rw [IntWalk.i64_in _ ⟨by omega, by omega⟩]; omega
  obtain ⟨W, hW⟩ : ∃ W, wdt q = W := ⟨_, rfl⟩
  obtain ⟨W1, hW1⟩ : ∃ W1, W + 1 = W1 := ⟨_, rfl⟩
  rw [hW, hW1] at hwm HL
  rw [hW]
  clear hW hW1
  go_enter Try.func57, Try.ntmps57
  go_wp2_with fail
  refine (HSZ.out _).mono ?_
  rintro e w1 ⟨rfl, hb1⟩
  have HX1 := hide (HX.out.next hb1)
  clear hb1
  go_wp2_with fail
  refine (HL.out _).mono ?_
  rintro e _ ⟨rfl, rfl⟩
  go_wp2_with fail
  go_ret
  exact ⟨rfl, HX1.out.2⟩

end Go.Proofs.Ythbmfaogjaahoaa

namespace Go.Proofs.Ythbmfaogjaahoaa
open Go.RowKit
set_option linter.unusedSimpArgs false
set_option linter.unusedVariables false

/-- The bits of the first elements. -/
def ebP (W : Nat) (zs : List Int) (j : Nat) : List Int := (zs.take j).flatMap fun x => bitsOf x W
theorem ebP_succ {W : Nat} {zs : List Int} {j : Nat} {x : Int} (hx : zs[j]? = some x) : ebP W zs (j + 1) = ebP W zs j ++ bitsOf x W := by
  unfold ebP
  rw [List.take_add_one, hx]
  simp [List.flatMap_append]
theorem ebP_len (W : Nat) (zs : List Int) : ∀ j, j ≤ zs.length → (ebP W zs j).length = j * W := by
  intro j
  induction j with
  | zero => intro _; simp [ebP]
  | succ j ih =>
    intro h
    obtain ⟨x, hx⟩ : ∃ x, zs[j]? = some x := ⟨_, List.getElem?_eq_getElem (by omega)⟩
    rw [ebP_succ hx, List.length_append, ih (by omega), bitsOf_len, Nat.add_mul, Nat.one_mul]
/-- Whether numbers fit in a width. -/
def fitL (W : Nat) (zs : List Int) : Bool := zs.all fun x => decide (x < ((2 ^ W : Nat) : Int))
/-- The code of ElementBits for a valid field with so many elements. -/
def ebK (q : Nat) (zs : List Int) : Int :=
  if (1 ≤ zs.length ∧ zs.length ≤ 1500) ∧ zs.all (elB q) = true then (if zs.length * wdt q ≤ 8192 then (if fitL (wdt q) zs then 0 else 6) else 3) else 2
def ebR (q : Nat) (zs : List Int) : List Int := if ebK q zs = 0 then ebP (wdt q) zs zs.length else []
theorem ebR_len (q : Nat) (zs : List Int) : (ebR q zs).length ≤ 8192 := by
  unfold ebR
  split
  · rename_i h
    rw [ebP_len _ _ _ (Nat.le_refl _)]
    unfold ebK at h
    split at h
    · split at h
      · assumption
      · omega
    · omega
  · simp

set_option maxRecDepth 100000 in
set_option maxHeartbeats 1000000 in
theorem implCap (x : Int) (w : World) : Calls Try.prog 56 #[.int .i64 x] w fun e w' => e = .returned (.bool (inR x 1 1500)) ∧ w' = w := by
  by_cases h : 1 ≤ x
  · by_cases h2 : x ≤ 1500
    · rw [inR_yes h h2]
      go_enter Try.func56, Try.ntmps56
      go_wp2_with fail
      go_ret
      exact ⟨rfl, rfl⟩
    · rw [inR_no (.inr (by omega))]
      go_enter Try.func56, Try.ntmps56
      go_wp2_with fail
      go_ret
      exact ⟨by simp [h2], rfl⟩
  · rw [inR_no (.inl (by omega))]
    go_enter Try.func56, Try.ntmps56
    go_wp2_with fail
    go_ret
    exact ⟨by simp [h], rfl⟩
set_option maxRecDepth 100000 in
set_option maxHeartbeats 1000000 in
theorem specCap (x : Int) (w : World) : Calls Try.prog 52 #[.int .i64 x] w fun e w' => e = .returned (.bool (inR x 1 1500)) ∧ w' = w := by
  go_enter Try.func52, Try.ntmps52
  go_wp2_with fail
  refine (specIn_is x 1 1500 _ _ rfl).mono ?_
  rintro e w1 ⟨rfl, rfl⟩
  go_wp2_with fail
  go_ret
  exact ⟨rfl, rfl⟩
end Go.Proofs.Ythbmfaogjaahoaa

namespace Go.Proofs.Ythbmfaogjaahoaa
open Go.RowKit
set_option linter.unusedSimpArgs false
set_option linter.unusedVariables false

/-- What a function leaves that returns a new list and a code. -/
def EbPost (r : List Int) (c : Int) (w : World) (x : Ending) (w' : World) : Prop :=
  ∃ A m, x = .returned (.tuple #[.slice A r.length m, .int .i64 c]) ∧ r.length ≤ m ∧ Own w' w.heap.size 2 .i64 (.slice A r.length m) r ∧ Below w.heap.size w w'
theorem eb_nil {c : Int} {w w' : World} (hb : Below w.heap.size w w') : EbPost [] c w (.returned (.tuple #[.slice none 0 0, .int .i64 c])) w' :=
  ⟨none, 0, rfl, Nat.le_refl _, World.ownsRow_nil _ _ _ _, hb⟩
theorem eb_of {r : List Int} {c : Int} {w w' : World} {v : Value} {base : Nat} (h : Own w' base 2 .i64 v r) (hb : Below w.heap.size w w') (hB : w.heap.size ≤ base) : EbPost r c w (.returned (.tuple #[v, .int .i64 c])) w' := by
  obtain ⟨A, m, rfl, hc⟩ := h.form
  exact ⟨A, m, rfl, hc, h.low hB, hb⟩
theorem eb_bad {q : Nat} {zs : List Int} {c : Int} (h : ebK q zs = c) (hc : c ≠ 0) {w w' : World} (hb : Below w.heap.size w w') : EbPost (ebR q zs) (ebK q zs) w (.returned (.tuple #[.slice none 0 0, .int .i64 c])) w' := by
  have hr : ebR q zs = [] := by unfold ebR; rw [if_neg (by rw [h]; exact hc)]
  rw [hr, h]; exact eb_nil hb
def EbRel (w w0 : World) (W : Nat) (zs : List Int) (p k g : Int) (v i : Value) (wr : World) : Prop :=
  ∃ j : Nat, j ≤ zs.length ∧ i = .int .i64 j ∧ Hid (fitL W (zs.take j) = true) ∧ Own wr (w.heap.size + 1) 2 .i64 v (ebP W zs j) ∧ Box w wr 36 p k g
theorem fit_step {W j : Nat} {zs : List Int} {x : Int} (h : fitL W (zs.take j) = true) (hx : zs[j]? = some x) (hf : x < ((2 ^ W : Nat) : Int)) : fitL W (zs.take (j + 1)) = true := by
  unfold fitL at h ⊢
  rw [List.take_add_one, hx]
  simp only [List.all_append, h, Bool.true_and, Option.toList_some, List.all_cons, List.all_nil, Bool.and_true, decide_eq_true_eq]
  exact hf
theorem fit_stop {W j : Nat} {zs : List Int} {x : Int} (hx : zs[j]? = some x) (hf : ¬ x < ((2 ^ W : Nat) : Int)) : fitL W zs = false := by
  unfold fitL
  rw [List.all_eq_false]
  exact ⟨x, List.mem_of_getElem? hx, by simpa using hf⟩
theorem eb_ok {q : Nat} {zs : List Int} (h1 : 1 ≤ zs.length ∧ zs.length ≤ 1500) (h2 : zs.all (elB q) = true) (h3 : zs.length * wdt q ≤ 8192) (h4 : fitL (wdt q) zs = true) : ebK q zs = 0 ∧ ebR q zs = ebP (wdt q) zs zs.length := by
  have h : ebK q zs = 0 := by unfold ebK; rw [if_pos ⟨h1, h2⟩, if_pos h3, if_pos h4]
  exact ⟨h, by unfold ebR; rw [if_pos h]⟩
theorem elB_nn {q : Nat} {zs : List Int} (h : zs.all (elB q) = true) {j : Nat} {x : Int} (hx : zs[j]? = some x) : 0 ≤ x ∧ x < (q : Int) := by
  have := List.all_eq_true.1 h x (List.mem_of_getElem? hx)
  simpa [elB] using this

set_option maxRecDepth 100000 in
set_option maxHeartbeats 4000000 in
theorem implEb {p k g : Int} {q : Nat} {mul : Nat → Nat → Nat} (hb : fieldB p k g = true) (hK : Kd p k g q mul) (A : Option Addr) (n c B : Nat) (zs : List Int) (w : World) (hI : Ints .i64 w B A n zs) (hB : B ≤ w.heap.size) (hn : n ≤ 1048576) :
    Calls Try.prog 46 #[.agg #[.int .i64 p, .int .i64 k, .int .i64 g], .slice A n c] w (EbPost (ebR q zs) (ebK q zs) w) := by
  have HX := hide (Box.start w 36 p k g)
  obtain ⟨c0, c1, c2⟩ := HX.out.cells
  have HI := hide hI
  have hl := hide hI.len
  have HV := hide (show ∀ w, Calls Try.prog 55 #[.agg #[.int .i64 p, .int .i64 k, .int .i64 g]] w (Gives (.bool true) w) from fun w => by rw [← hb]; exact implValid p k g w)
  have HA := hide (fun w hI hB => pyHasAll hK A n c B zs w hI hB (by omega))
  have HW := hide (fun w => implWd hK w)
  obtain ⟨hq3, hq⟩ := hK.big
  obtain ⟨hw1, hw9, _, _⟩ := wdt_is hq3 hq
  obtain ⟨cp, hcp⟩ : ∃ cp, inR (n : Int) 1 1500 = cp := ⟨_, rfl⟩
  have HCP := hide (fun w => implCap (n : Int) w)
  rw [hcp] at HCP
  have HC := hide hcp
  clear hI hcp
  rcases cp with _ | _
  · have h2 : ebK q zs = 2 := by
      have h := HC.out
      simp only [inR, decide_eq_false_iff_not] at h
      unfold ebK; rw [if_neg (by rw [hl.out]; omega)]
    have HN := hide (fun w' (hb : Below w.heap.size w w') => eb_bad (q := q) (zs := zs) h2 (by omega) hb)
    clear h2
    go_enter Try.func46, Try.ntmps46
    go_wp2_with fail
    refine (HV.out _).mono ?_
    rintro e w1 ⟨rfl, hb1⟩
    have HX1 := hide (HX.out.next hb1)
    clear hb1 c0 c1 c2
    go_wp2_with fail
    refine (HCP.out _).mono ?_
    rintro e _ ⟨rfl, rfl⟩
    go_wp2_with fail
    go_ret2
    exact HN.out _ HX1.out.2
  have hn1 : 1 ≤ n ∧ n ≤ 1500 := by
    have h := HC.out
    simp only [inR, decide_eq_true_eq] at h
    omega
  go_enter Try.func46, Try.ntmps46
  go_wp2_with fail
  refine (HV.out _).mono ?_
  rintro e w1 ⟨rfl, hb1⟩
  have HX1 := hide (HX.out.next hb1)
  clear hb1 c0 c1 c2
  obtain ⟨c0, c1, c2⟩ := HX1.out.cells
  go_wp2_with fail
  refine (HCP.out _).mono ?_
  rintro e _ ⟨rfl, rfl⟩
  go_wp2_with fail
  refine (HA.out _ (HI.out.below (HX1.out.2.mono hB)) (Nat.le_trans hB HX1.out.2.size)).mono ?_
  rintro e w2 ⟨rfl, hb2⟩
  have HX2 := hide (HX1.out.next hb2)
  clear hb2 c0 c1 c2
  obtain ⟨c0, c1, c2⟩ := HX2.out.cells
  rcases hall : zs.all (elB q) with _ | _
  · have h2 : ebK q zs = 2 := by unfold ebK; rw [if_neg (by rw [hall]; simp)]
    have HN := hide (fun w' (hb : Below w.heap.size w w') => eb_bad (q := q) (zs := zs) h2 (by omega) hb)
    clear h2 hall
    go_wp2_with fail
    go_ret2
    exact HN.out _ HX2.out.2
  have HALL := hide hall
  clear hall
  go_wp2_with fail
  refine (HW.out _).mono ?_
  rintro e w3 ⟨rfl, hb3⟩
  have HX3 := hide (HX2.out.next hb3)
  clear hb3 c0 c1 c2
  have HEK := hide (fun h3 h4 => eb_ok (q := q) (zs := zs) (by rw [hl.out]; exact hn1) HALL.out h3 h4)
  have HE3 := hide (show ¬ zs.length * wdt q ≤ 8192 → ebK q zs = 3 from fun h => by unfold ebK; rw [if_pos ⟨by rw [hl.out]; exact hn1, HALL.out⟩, if_neg h])
  have HE6 := hide (show zs.length * wdt q ≤ 8192 → fitL (wdt q) zs = false → ebK q zs = 6 from fun h h6 => by unfold ebK; rw [if_pos ⟨by rw [hl.out]; exact hn1, HALL.out⟩, if_pos h, h6]; rfl)
  obtain ⟨W, hW⟩ : ∃ W, wdt q = W := ⟨_, rfl⟩
  rw [hW] at hw1 hw9 HEK HE3 HE6
  rw [hW]
  have hnW : n * W ≤ 13500 := Nat.le_trans (Nat.mul_le_mul hn1.2 hw9) (by decide)
  rw [hl.out] at HEK HE3 HE6
  obtain ⟨nW, hnw⟩ : ∃ nW, n * W = nW := ⟨_, rfl⟩
  have hmw : IntKind.i64.wrap ((n : Int) * (W : Int)) = (nW : Int) := by rw [← Int.natCast_mul, hnw]; exact IntWalk.i64_in _ ⟨by omega, by omega⟩
  have HNW := hide hnw
  rw [hnw] at hnW HEK HE3 HE6
  clear hW hnw
  by_cases hbig : 8192 < nW
  · have hbi : (8192 : Int) < (nW : Int) := by omega
    have HN := hide (fun w' (hb : Below w.heap.size w w') => eb_bad (q := q) (zs := zs) (HE3.out (by omega)) (by omega) hb)
    go_wp2_with fail
    go_ret2
    exact HN.out _ HX3.out.2
  have hbi : ¬ (8192 : Int) < (nW : Int) := by omega
  go_wp2_with (at_make; refine wpList_mk0 _ rfl _ _ _ rfl elem64 .i64 .i64 _ nW rfl rfl rfl (by omega) ?_; intro w4 hown hbel; have HO4 := hide (hown.low (base' := w.heap.size + 1) HX3.out.lt); have HX4 := hide (HX3.out.next hbel); clear hown hbel)
  go_loopw [8, 36] (fun v i wr => EbRel w w W zs p k g v i wr) (fun _ i _ => n - (intOf i).toNat)
  case atStart => exact ⟨0, Nat.zero_le _, rfl, hide (by simp [fitL]), by simpa [ebP] using HO4.out, HX4.out⟩
  case round =>
    clear HO4 HX4 HX3
    obtain ⟨v, hvv⟩ : ∃ v : Value, v = u8 := ⟨_, rfl⟩
    subst hvv
    obtain ⟨j, hj, rfl, hF, hO, hX⟩ := hrel
    have HF := hF
    have HO := hide hO
    have HX := hide hX
    rw [hl.out] at hj
    clear hF hO hX
    by_cases hlt : j < n
    · obtain ⟨b, off, x, rfl, hb, hx, hc⟩ := (HI.out.below (HX.out.2.mono hB)).at_ hlt
      have hxb := elB_nn HALL.out hx
      have HEP := hide (ebP_succ (W := W) hx)
      have hlen := ebP_len W zs j (by rw [hl.out]; exact hj)
      have hjW : j * W ≤ nW := by rw [← HNW.out]; exact Nat.mul_le_mul_right W hj
      have HFS := hide (fun hf => fit_step (W := W) HF.out hx hf)
      have HFN := hide (fun hf => fit_stop (W := W) hx hf)
      have hbz : w.heap.size + 1 ≤ wr.heap.size := HX.out.lt
      obtain ⟨P, hP⟩ : ∃ P, ebP W zs j = P := ⟨_, rfl⟩
      rw [hP] at HO HEP hlen
      have hPl : P.length ≤ 1099511627776 := by omega
      clear hx hP hlen
      by_cases hfit : x < ((2 ^ W : Nat) : Int)
      · have HFI := hide (show inR x 0 (2 ^ W - 1) = true from inR_yes hxb.1 (by have h : ((2 ^ W : Nat) : Int) = (2 : Int) ^ W := (by simp); omega))
        have HFS2 := hide (HFS.out hfit)
        clear hfit
        go_wp2_with fail
        refine (implFits_is x W true wr (by omega) HFI.out).mono ?_
        rintro e _ ⟨rfl, rfl⟩
        go_wp2_with fail
        refine (implAppendNumber v (w.heap.size + 1) W P x wr HO.out hbz hPl (by omega) hxb.1 (by omega)).mono ?_
        rintro e w5 ⟨v5, rfl, ho5, hb5⟩
        have HX5 := hide (show Box w w5 36 p k g from ⟨(hb5.block _ (by omega)).trans HX.out.1, HX.out.2.trans (hb5.mono (by omega))⟩)
        have HO5 := hide ho5
        clear ho5 hb5
        go_wp2_with fail
        go_roundw
        case rel => exact ⟨j + 1, by rw [hl.out]; exact hlt, by go_num, HFS2.out, by rw [HEP.out]; exact HO5.out, HX5.out⟩
        case measure => simp [intOf]; omega
      · have HFI := hide (show inR x 0 (2 ^ W - 1) = false from inR_no (.inr (by have h : ((2 ^ W : Nat) : Int) = (2 : Int) ^ W := (by simp); omega)))
        have HN := hide (fun w' (hb : Below w.heap.size w w') => eb_bad (q := q) (zs := zs) (HE6.out (by omega) (HFN.out hfit)) (by omega) hb)
        go_wp2_with fail
        refine (implFits_is x W false wr (by omega) HFI.out).mono ?_
        rintro e _ ⟨rfl, rfl⟩
        go_wp2_with fail
        go_ret2
        exact HN.out _ HX.out.2
    · obtain rfl : j = n := by omega
      have hft := HF.out
      rw [List.take_of_length_le (by rw [hl.out]; exact Nat.le_refl _)] at hft
      have HEN := hide (HEK.out (by omega) hft)
      clear hft
      go_wp2_with fail
      go_ret2
      rw [HEN.out.1, HEN.out.2]
      exact eb_of HO.out HX.out.2 (by omega)

/-- The code of a field and elements, for a valid field. -/
def ecK (q : Nat) (zs : List Int) : Int := if (1 ≤ zs.length ∧ zs.length ≤ 1500) ∧ zs.all (elB q) = true then 0 else 2
set_option maxRecDepth 100000 in
set_option maxHeartbeats 4000000 in
theorem specEc {p k g : Int} {q : Nat} {mul : Nat → Nat → Nat} (hb : fieldB p k g = true) (hK : Kd p k g q mul) (A : Option Addr) (n c B : Nat) (zs : List Int) (w : World) (hI : Ints .i64 w B A n zs) (hB : B ≤ w.heap.size) (hn : n ≤ 1048576) :
    Calls Try.prog 70 #[.agg #[.int .i64 p, .int .i64 k, .int .i64 g], .slice A n c] w (Gives (.int .i64 (ecK q zs)) w) := by
  have HX := hide (Box.start w 36 p k g)
  obtain ⟨c0, c1, c2⟩ := HX.out.cells
  have HI := hide hI
  have hl := hide hI.len
  have HV := hide (show ∀ w, Calls Try.prog 51 #[.agg #[.int .i64 p, .int .i64 k, .int .i64 g]] w (Gives (.bool true) w) from fun w => by rw [← hb]; exact specIsField p k g w)
  have HA := hide (fun w hI hB => specIs hK A n c B zs w hI hB (by omega))
  obtain ⟨cp, hcp⟩ : ∃ cp, inR (n : Int) 1 1500 = cp := ⟨_, rfl⟩
  have HCP := hide (fun w => specCap (n : Int) w)
  rw [hcp] at HCP
  have HC := hide hcp
  clear hI hcp
  rcases cp with _ | _
  · have h2 : ecK q zs = 2 := by
      have h := HC.out
      simp only [inR, decide_eq_false_iff_not] at h
      unfold ecK; rw [if_neg (by rw [hl.out]; omega)]
    rw [h2]
    clear h2
    go_enter Try.func70, Try.ntmps70
    go_wp2_with fail
    refine (HV.out _).mono ?_
    rintro e w1 ⟨rfl, hb1⟩
    have HX1 := hide (HX.out.next hb1)
    clear hb1 c0 c1 c2
    go_wp2_with fail
    refine (HCP.out _).mono ?_
    rintro e _ ⟨rfl, rfl⟩
    go_wp2_with fail
    go_ret
    exact ⟨rfl, HX1.out.2⟩
  have hn1 : 1 ≤ n ∧ n ≤ 1500 := by
    have h := HC.out
    simp only [inR, decide_eq_true_eq] at h
    omega
  have HE := hide (show ecK q zs = if zs.all (elB q) = true then 0 else 2 by
    unfold ecK
    by_cases h : zs.all (elB q) = true
    · rw [if_pos ⟨by rw [hl.out]; exact hn1, h⟩, if_pos h]
    · rw [if_neg (fun q => h q.2), if_neg h])
  rw [HE.out]
  obtain ⟨al, hal⟩ : ∃ al, zs.all (elB q) = al := ⟨_, rfl⟩
  rw [hal] at HA ⊢
  clear hal HE
  rcases al with _ | _
  all_goals
    first
      | rw [if_pos rfl]
      | rw [if_neg (by simp)]
    go_enter Try.func70, Try.ntmps70
    go_wp2_with fail
    refine (HV.out _).mono ?_
    rintro e w1 ⟨rfl, hb1⟩
    have HX1 := hide (HX.out.next hb1)
    clear hb1 c0 c1 c2
    obtain ⟨c0, c1, c2⟩ := HX1.out.cells
    go_wp2_with fail
    refine (HCP.out _).mono ?_
    rintro e _ ⟨rfl, rfl⟩
    go_wp2_with fail
    refine (HA.out _ (HI.out.below (HX1.out.2.mono hB)) (Nat.le_trans hB HX1.out.2.size)).mono ?_
    rintro e w2 ⟨rfl, hb2⟩
    have HX2 := hide (HX1.out.next hb2)
    clear hb2 c0 c1 c2
    go_wp2_with fail
    go_ret
    exact ⟨rfl, HX2.out.2⟩

set_option maxRecDepth 100000 in
set_option maxHeartbeats 4000000 in
theorem specEb {p k g : Int} {q : Nat} {mul : Nat → Nat → Nat} (hb : fieldB p k g = true) (hK : Kd p k g q mul) (A : Option Addr) (n c B : Nat) (zs : List Int) (w : World) (hI : Ints .i64 w B A n zs) (hB : B ≤ w.heap.size) (hn : n ≤ 1048576) :
    Calls Try.prog 42 #[.agg #[.int .i64 p, .int .i64 k, .int .i64 g], .slice A n c] w (EbPost (ebR q zs) (ebK q zs) w) := by
  have HX := hide (Box.start w 36 p k g)
  obtain ⟨c0, c1, c2⟩ := HX.out.cells
  have HI := hide hI
  have hl := hide hI.len
  have HEC := hide (fun w hI hB => specEc hb hK A n c B zs w hI hB hn)
  have HW := hide (fun w => specWd hK w)
  obtain ⟨hq3, hq⟩ := hK.big
  obtain ⟨hw1, hw9, _, _⟩ := wdt_is hq3 hq
  clear hI
  by_cases hec : (1 ≤ zs.length ∧ zs.length ≤ 1500) ∧ zs.all (elB q) = true
  case neg =>
    have h2 : ebK q zs = 2 := by unfold ebK; rw [if_neg hec]
    have h3 : ecK q zs = 2 := by unfold ecK; rw [if_neg hec]
    rw [h3] at HEC
    have HN := hide (fun w' (hb : Below w.heap.size w w') => eb_bad (q := q) (zs := zs) h2 (by omega) hb)
    clear h2 h3 hec
    go_enter Try.func42, Try.ntmps42
    go_wp2_with fail
    refine (HEC.out _ (HI.out.below (HX.out.2.mono hB)) (Nat.le_trans hB HX.out.2.size)).mono ?_
    rintro e w1 ⟨rfl, hb1⟩
    have HX1 := hide (HX.out.next hb1)
    clear hb1 c0 c1 c2
    go_wp2_with fail
    go_ret2
    exact HN.out _ HX1.out.2
  have h3 : ecK q zs = 0 := by unfold ecK; rw [if_pos hec]
  rw [h3] at HEC
  clear h3
  obtain ⟨hn1, hall⟩ := hec
  rw [hl.out] at hn1
  have HALL := hide hall
  clear hall
  have HEK := hide (fun h3 h4 => eb_ok (q := q) (zs := zs) (by rw [hl.out]; exact hn1) HALL.out h3 h4)
  have HE3 := hide (show ¬ zs.length * wdt q ≤ 8192 → ebK q zs = 3 from fun h => by unfold ebK; rw [if_pos ⟨by rw [hl.out]; exact hn1, HALL.out⟩, if_neg h])
  have HE6 := hide (show zs.length * wdt q ≤ 8192 → fitL (wdt q) zs = false → ebK q zs = 6 from fun h h6 => by unfold ebK; rw [if_pos ⟨by rw [hl.out]; exact hn1, HALL.out⟩, if_pos h, h6]; rfl)
  obtain ⟨W, hW⟩ : ∃ W, wdt q = W := ⟨_, rfl⟩
  rw [hW] at hw1 hw9 HEK HE3 HE6 HW
  have hnW : n * W ≤ 13500 := Nat.le_trans (Nat.mul_le_mul hn1.2 hw9) (by decide)
  rw [hl.out] at HEK HE3 HE6
  obtain ⟨nW, hnw⟩ : ∃ nW, n * W = nW := ⟨_, rfl⟩
  have hmw : IntKind.i64.wrap ((n : Int) * (W : Int)) = (nW : Int) := by rw [← Int.natCast_mul, hnw]; exact IntWalk.i64_in _ ⟨by omega, by omega⟩
  have HNW := hide hnw
  rw [hnw] at hnW HEK HE3 HE6
  obtain ⟨pw, hpw, he, hp1, hp2⟩ := pow_fits W (by omega)
  have HPW := hide (show ((2 ^ W : Nat) : Int) = pw by rw [he]; simp)
  clear hW hnw he
  go_enter Try.func42, Try.ntmps42
  go_wp2_with fail
  refine (HEC.out _ (HI.out.below (HX.out.2.mono hB)) (Nat.le_trans hB HX.out.2.size)).mono ?_
  rintro e w1 ⟨rfl, hb1⟩
  have HX1 := hide (HX.out.next hb1)
  clear hb1 c0 c1 c2
  obtain ⟨c0, c1, c2⟩ := HX1.out.cells
  go_wp2_with fail
  refine (HW.out _).mono ?_
  rintro e w3 ⟨rfl, hb3⟩
  have HX3 := hide (HX1.out.next hb3)
  clear hb3 c0 c1 c2
  by_cases hbig : 8192 < nW
  · have hbi : (8192 : Int) < (nW : Int) := by omega
    have HN := hide (fun w' (hb : Below w.heap.size w w') => eb_bad (q := q) (zs := zs) (HE3.out (by omega)) (by omega) hb)
    go_wp2_with fail
    go_ret2
    exact HN.out _ HX3.out.2
  have hbi : ¬ (8192 : Int) < (nW : Int) := by omega
  have HO4 := hide ((Own.lit0 w3 2 .i64).low (base' := w.heap.size + 1) HX3.out.lt)
  have HX4 := hide (HX3.out.alloc (.cells #[] 2))
  go_wp2_with fail
  go_loopw [8, 9] (fun v i wr => EbRel w w W zs p k g v i wr) (fun _ i _ => n - (intOf i).toNat)
  case atStart => exact ⟨0, Nat.zero_le _, rfl, hide (by simp [fitL]), by simpa [ebP] using HO4.out, HX4.out⟩
  case round =>
    clear HO4 HX4 HX3
    obtain ⟨v, hvv⟩ : ∃ v : Value, v = u8 := ⟨_, rfl⟩
    subst hvv
    obtain ⟨j, hj, rfl, hF, hO, hX⟩ := hrel
    have HF := hF
    have HO := hide hO
    have HX := hide hX
    rw [hl.out] at hj
    obtain ⟨A8, c8, rfl, hc8⟩ := hO.form
    clear hF hO hX
    by_cases hlt : j < n
    · obtain ⟨b, off, x, rfl, hb, hx, hc⟩ := (HI.out.below (HX.out.2.mono hB)).at_ hlt
      have hxb := elB_nn HALL.out hx
      have HEP := hide (ebP_succ (W := W) hx)
      have hlen := ebP_len W zs j (by rw [hl.out]; exact hj)
      have hjW : j * W ≤ nW := by rw [← HNW.out]; exact Nat.mul_le_mul_right W hj
      have HFS := hide (fun hf => fit_step (W := W) HF.out hx hf)
      have HFN := hide (fun hf => fit_stop (W := W) hx hf)
      rw [HPW.out] at HFS HFN
      have hbz : w.heap.size + 1 ≤ wr.heap.size := HX.out.lt
      obtain ⟨P, hP⟩ : ∃ P, ebP W zs j = P := ⟨_, rfl⟩
      rw [hP] at HO HEP hlen ⊢
      obtain ⟨Pn, hPn⟩ : ∃ Pn, P.length = Pn := ⟨_, rfl⟩
      have HIP := hide (HO.out.ints' rfl)
      rw [hPn] at HIP HO
      rw [hPn]
      have hPl : Pn ≤ 1099511627776 := by omega
      clear hx hP hlen hPn hc8
      by_cases hfit : x < pw
      · have hni : ¬ pw ≤ x := by omega
        have HFS2 := hide (HFS.out hfit)
        clear hfit
        go_wp2_with fail
        refine (specAppendL A8 Pn c8 wr.heap.size W P x wr HIP.out (Nat.le_refl _) hPl (by omega) hxb.1 (by omega)).mono ?_
        rintro e w5 ⟨v5, rfl, ho5, hb5⟩
        have HX5 := hide (HX.out.next hb5)
        have HO5 := hide (ho5.low (base' := w.heap.size + 1) hbz)
        clear ho5 hb5
        go_wp2_with fail
        go_roundw
        case rel => exact ⟨j + 1, by rw [hl.out]; exact hlt, by go_num, HFS2.out, by rw [HEP.out]; exact HO5.out, HX5.out⟩
        case measure => simp [intOf]; omega
      · have hni : pw ≤ x := by omega
        have HN := hide (fun w' (hb : Below w.heap.size w w') => eb_bad (q := q) (zs := zs) (HE6.out (by omega) (HFN.out hfit)) (by omega) hb)
        go_wp2_with fail
        go_ret2
        exact HN.out _ HX.out.2
    · obtain rfl : j = n := by omega
      have hft := HF.out
      rw [List.take_of_length_le (by rw [hl.out]; exact Nat.le_refl _)] at hft
      have HEN := hide (HEK.out (by omega) hft)
      clear hft
      go_wp2_with fail
      go_ret2
      rw [HEN.out.1, HEN.out.2]
      exact eb_of HO.out HX.out.2 (by omega)

set_option maxRecDepth 100000 in
set_option maxHeartbeats 1000000 in
theorem specEc_no {p k g : Int} (hb : fieldB p k g = false) (A : Option Addr) (n c : Nat) (w : World) :
    Calls Try.prog 70 #[.agg #[.int .i64 p, .int .i64 k, .int .i64 g], .slice A n c] w (Gives (.int .i64 1) w) := by
  have HX := hide (Box.start w 36 p k g)
  obtain ⟨c0, c1, c2⟩ := HX.out.cells
  have HV := hide (show ∀ w, Calls Try.prog 51 #[.agg #[.int .i64 p, .int .i64 k, .int .i64 g]] w (Gives (.bool false) w) from fun w => by rw [← hb]; exact specIsField p k g w)
  go_enter Try.func70, Try.ntmps70
  go_wp2_with fail
  refine (HV.out _).mono ?_
  rintro e w1 ⟨rfl, hb1⟩
  have HX1 := hide (HX.out.next hb1)
  clear hb1 c0 c1 c2
  go_wp2_with fail
  go_ret
  exact ⟨rfl, HX1.out.2⟩
set_option maxRecDepth 100000 in
set_option maxHeartbeats 1000000 in
theorem eb_noS {p k g : Int} (hb : fieldB p k g = false) (A : Option Addr) (n c : Nat) (w : World) :
    Calls Try.prog 42 #[.agg #[.int .i64 p, .int .i64 k, .int .i64 g], .slice A n c] w (EbPost [] 1 w) := by
  have HX := hide (Box.start w 36 p k g)
  obtain ⟨c0, c1, c2⟩ := HX.out.cells
  have HV := hide (fun w => specEc_no hb A n c w)
  go_enter Try.func42, Try.ntmps42
  go_wp2_with fail
  refine (HV.out _).mono ?_
  rintro e w1 ⟨rfl, hb1⟩
  have HX1 := hide (HX.out.next hb1)
  clear hb1 c0 c1 c2
  go_wp2_with fail
  go_ret2
  exact eb_nil HX1.out.2
set_option maxRecDepth 100000 in
set_option maxHeartbeats 1000000 in
theorem eb_noI {p k g : Int} (hb : fieldB p k g = false) (A : Option Addr) (n c : Nat) (w : World) :
    Calls Try.prog 46 #[.agg #[.int .i64 p, .int .i64 k, .int .i64 g], .slice A n c] w (EbPost [] 1 w) := by
  have HX := hide (Box.start w 36 p k g)
  obtain ⟨c0, c1, c2⟩ := HX.out.cells
  have HV := hide (fun w => (show Calls Try.prog 55 #[.agg #[.int .i64 p, .int .i64 k, .int .i64 g]] w (Gives (.bool false) w) by rw [← hb]; exact implValid p k g w))
  go_enter Try.func46, Try.ntmps46
  go_wp2_with fail
  refine (HV.out _).mono ?_
  rintro e w1 ⟨rfl, hb1⟩
  have HX1 := hide (HX.out.next hb1)
  clear hb1 c0 c1 c2
  go_wp2_with fail
  go_ret2
  exact eb_nil HX1.out.2

/-- ElementBits, of both. -/
theorem eb_both (p k g : Int) (z : List Int) (hz : z.length ≤ 1048576) : ∃ (r : List Int) (c : Int), r.length ≤ 1099511627776 ∧
    (∀ (A : Option Addr) (n c0 B : Nat) (w : World), Ints .i64 w B A n z → B ≤ w.heap.size → Calls Try.prog 42 #[.agg #[.int .i64 p, .int .i64 k, .int .i64 g], .slice A n c0] w (EbPost r c w)) ∧
    (∀ (A : Option Addr) (n c0 B : Nat) (w : World), Ints .i64 w B A n z → B ≤ w.heap.size → Calls Try.prog 46 #[.agg #[.int .i64 p, .int .i64 k, .int .i64 g], .slice A n c0] w (EbPost r c w)) := by
  rcases hb : fieldB p k g with _ | _
  · exact ⟨[], 1, by simp, fun A n c0 B w _ _ => eb_noS hb A n c0 w, fun A n c0 B w _ _ => eb_noI hb A n c0 w⟩
  · obtain ⟨q, mul, γ, hK, _⟩ := fieldB_open hb
    exact ⟨ebR q z, ebK q z, Nat.le_trans (ebR_len q z) (by omega), fun A n c0 B w hI hB => specEb hb hK A n c0 B z w hI hB (by rw [← hI.len]; exact hz), fun A n c0 B w hI hB => implEb hb hK A n c0 B z w hI hB (by rw [← hI.len]; exact hz)⟩
end Go.Proofs.Ythbmfaogjaahoaa
