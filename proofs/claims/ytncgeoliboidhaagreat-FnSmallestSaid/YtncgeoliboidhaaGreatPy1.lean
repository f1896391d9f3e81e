/-
  The width of a field, of the model and of the program; whether elements are of a field; whether a number is a capacity.
  Condition: as each statement says.
-/
import Derived.Test.YtncgeoliboidhaaGreatVC
import Derived.Test.YtncgeoliboidhaaGreatVA
import Derived.Test.YtncgeoliboidhaaGreatVB
namespace Go.Proofs.YtncgeoliboidhaaGreat
open Go.RowKit
set_option linter.unusedSimpArgs false
set_option linter.unusedVariables false

def PyAllRel (w : World) (p k g : Int) (q n : Nat) (zs : List Int) (i : Value) (wr : World) : Prop :=
  ∃ j : Nat, j ≤ n ∧ i = .int .i64 j ∧ Hid ((zs.take j).all (elB q) = true) ∧ Box w wr 25 p k g

set_option maxHeartbeats 1000000 in
theorem pyHasAll {p k g : Int} {q : Nat} {mul : Nat → Nat → Nat} (hK : Kd p k g q mul) (A : Option Addr) (n c B : Nat) (zs : List Int) (w : World) (hI : Ints .i64 w B A n zs) (hB : B ≤ w.heap.size) (hn : n ≤ 1099511627776) :
    Calls Tryz.prog 90 #[.agg #[.int .i64 p, .int .i64 k, .int .i64 g], .slice A n c] w (Gives (.bool (zs.all (elB q))) w) := by
  have HX := hide (Box.start w 25 p k g)
  have HI := hide hI
  have hl := hide hI.len
  clear hI
  go_enter Tryz.func90, Tryz.ntmps90
  go_wp2_with fail
  go_loopw [9] (fun i wr => PyAllRel w p k g q n zs i wr) (fun i _ => n - (intOf i).toNat)
  case atStart => exact ⟨0, by omega, rfl, by simp [Hid], HX⟩
  case round =>
    clear HX
    obtain ⟨j, hj, rfl, HA, HX⟩ := hrel
    have HX := hide HX
    obtain ⟨c0, c1, c2⟩ := HX.out.cells
    by_cases hlt : j < n
    · obtain ⟨b, off, x, rfl, hb, hx, hc⟩ := (HI.out.below (HX.out.2.mono hB)).at_ hlt
      have hx' := hide hx
      clear hx
      rcases he : elB q x with _ | _
      · have HF := hide (fAll_no hx' he)
        have he' : decide (0 ≤ x ∧ x < (q : Int)) = false := he
        go_wp2_with fail
        refine (implHasF hK x _).mono ?_
        rw [he']
        clear he he'
        rintro e w2 ⟨rfl, hb2⟩
        have HX2 := hide (HX.out.next hb2)
        clear hb2
        go_wp2_with fail
        go_ret
        exact ⟨ret_bool HF, HX2.out.2⟩
      · have HN := hide (all_snoc HA.out hx' he)
        have he' : decide (0 ≤ x ∧ x < (q : Int)) = true := he
        go_wp2_with fail
        refine (implHasF hK x _).mono ?_
        rw [he']
        clear he he'
        rintro e w2 ⟨rfl, hb2⟩
        have HX2 := hide (HX.out.next hb2)
        clear hb2
        go_wp2_with fail
        go_roundw
        case rel => exact ⟨j + 1, by omega, by go_num, HN, HX2⟩
        case measure => simp [intOf]; omega
    · have HF := hide (show zs.all (elB q) = true by
        have h1 := HA.out
        rwa [List.take_of_length_le (by rw [hl.out]; omega)] at h1)
      go_wp2_with fail
      go_ret
      exact ⟨ret_bool HF, HX.out.2⟩

/-- The width of a field of a size. -/
def wdt (q : Nat) : Nat := q.log2
theorem wdt_is {q : Nat} (h3 : 3 ≤ q) (h : q ≤ 1021) : 1 ≤ wdt q ∧ wdt q ≤ 9 ∧ 2 ^ wdt q ≤ q ∧ q < 2 ^ (wdt q + 1) := by
  have h1 := Nat.log2_self_le (n := q) (by omega)
  have h2 := Nat.lt_log2_self (n := q)
  refine ⟨?_, ?_, h1, h2⟩
  · rcases Nat.lt_or_ge (wdt q) 1 with h0 | h0
    · have : wdt q = 0 := by omega
      unfold wdt at this; rw [this] at h2; omega
    · exact h0
  · rcases Nat.lt_or_ge 9 (wdt q) with h0 | h0
    · have : 2 ^ 10 ≤ 2 ^ wdt q := Nat.pow_le_pow_right (by omega) h0
      have h4 : 2 ^ wdt q ≤ q := h1
      omega
    · exact h0
theorem wdt_step {q a : Nat} (h3 : 3 ≤ q) (h : q ≤ 1021) : (2 ^ (a + 1) ≤ q ↔ a + 1 ≤ wdt q) := by
  obtain ⟨_, _, h1, h2⟩ := wdt_is h3 h
  constructor
  · intro hh
    rcases Nat.lt_or_ge (wdt q) (a + 1) with h0 | h0
    · have := Nat.pow_le_pow_right (n := 2) (by omega) h0
      omega
    · exact h0
  · intro hh
    exact Nat.le_trans (Nat.pow_le_pow_right (by omega) hh) h1
def WdRel (w : World) (p k g : Int) (q : Nat) (i : Value) (wr : World) : Prop :=
  ∃ a : Nat, a ≤ wdt q ∧ i = .int .i64 a ∧ Box w wr 25 p k g

set_option maxRecDepth 100000 in
set_option maxHeartbeats 1000000 in
theorem specWd {p k g : Int} {q : Nat} {mul : Nat → Nat → Nat} (hK : Kd p k g q mul) (w : World) :
    Calls Tryz.prog 71 #[.agg #[.int .i64 p, .int .i64 k, .int .i64 g]] w (Gives (.int .i64 (wdt q : Nat)) w) := by
  have HX := hide (Box.start w 25 p k g)
  obtain ⟨hq3, hq⟩ := hK.big
  obtain ⟨hw1, hw9, _, _⟩ := wdt_is hq3 hq
  go_enter Tryz.func71, Tryz.ntmps71
  go_wp2_with fail
  go_loopw [3] (fun i wr => WdRel w p k g q i wr) (fun i _ => 10 - (intOf i).toNat)
  case atStart => exact ⟨0, by omega, rfl, HX.out⟩
  case round =>
    clear HX
    obtain ⟨a, ha, rfl, hX⟩ := hrel
    have HX := hide hX
    have HST := hide (wdt_step (a := a) hq3 hq)
    obtain ⟨c0, c1, c2⟩ := HX.out.cells
    obtain ⟨t2, ht2⟩ : ∃ t2 : Nat, 2 ^ (a + 1) = t2 := ⟨_, rfl⟩
    have hsub : (2 : Int) * 2 ^ a = (t2 : Int) := by rw [← ht2, Nat.pow_succ, Int.natCast_mul, Int.natCast_pow, Int.mul_comm]; rfl
    have ht2b : t2 ≤ 1024 := by rw [← ht2]; exact Nat.le_trans (Nat.pow_le_pow_right (by omega) (show a + 1 ≤ 10 by omega)) (by decide)
    have hwt : wrap64 (t2 : Int) = (t2 : Int) := IntWalk.wrap64_in _ ⟨by omega, by omega⟩
    rw [ht2] at HST
    clear hX ht2
    go_wp2_with fail
    refine (specSize hK _).mono ?_
    rintro e w2 ⟨rfl, hb2⟩
    have HX2 := hide (HX.out.next hb2)
    clear hb2 c0 c1 c2
    by_cases hle : t2 ≤ q
    · have hli : (t2 : Int) ≤ (q : Int) := by omega
      have hst := HST.out.1 hle
      have hwa : IntKind.i64.wrap ((a : Int) + 1) = ((a + 1 : Nat) : Int) := by rw [IntWalk.i64_in _ ⟨by omega, by omega⟩]; omega
      obtain ⟨a1, ha1⟩ : ∃ a1, a + 1 = a1 := ⟨_, rfl⟩
      rw [ha1] at hwa hst
      have HA1 := hide ha1
      clear ha1
      go_wp2_with fail
      go_roundw
      case rel => exact ⟨a1, hst, rfl, HX2.out⟩
      case measure => have := HA1.out; simp [intOf]; omega
    · have hli : ¬ (t2 : Int) ≤ (q : Int) := by omega
      have haw : a = wdt q := by
        have := HST.out
        rcases Nat.lt_or_ge a (wdt q) with h | h
        · exact absurd (this.2 h) hle
        · omega
      subst haw
      go_wp2_with fail
      go_ret
      exact ⟨rfl, HX2.out.2⟩

set_option maxRecDepth 100000 in
set_option maxHeartbeats 4000000 in
theorem implLen64N (q : Nat) (h3 : 3 ≤ q) (hq : q ≤ 1021) (w : World) :
    Calls Tryz.prog 81 #[.int .u64 q] w fun e w' => e = .returned (.int .i64 ((wdt q + 1 : Nat) : Int)) ∧ w' = w := by
  have h32 : ¬ (4294967296 : Int) ≤ (q : Int) := by omega
  have h16 : ¬ (65536 : Int) ≤ (q : Int) := by omega
  go_enter Tryz.func81, Tryz.ntmps81
  generalize hT : ByteArray.mk _ = tb
  have hs : tb.size = 256 := by rw [← hT]; kernel_rfl
  have hB : ∀ k : Fin 256, (bytesI tb)[k.val]? = some (((if k.val = 0 then 0 else k.val.log2 + 1) : Nat) : Int) := by rw [← hT]; decide +kernel
  clear hT
  have hlb : q.log2 ≤ 9 := (wdt_is h3 hq).2.1
  by_cases h8 : q < 256
  · have h8i : ¬ (256 : Int) ≤ (q : Int) := by omega
    have hqs : q < tb.size := by omega
    obtain ⟨y, hy, hy2, hy0, hy1⟩ := byteAt tb hqs
    have h1 := hB ⟨q, h8⟩
    rw [hy2, if_neg (show ¬ q = 0 by omega)] at h1
    obtain rfl := Option.some.inj h1
    have hqI : (q : Int) < (tb.size : Int) := by omega
    have hwy : IntKind.i64.wrap ((q.log2 + 1 : Nat) : Int) = ((q.log2 + 1 : Nat) : Int) := IntWalk.i64_in _ ⟨by omega, by omega⟩
    have hwu : IntKind.u8.wrap (q : Int) = (q : Int) := by rw [IntKind.wrap_u8]; omega
    have HG := hide (show ((wdt q + 1 : Nat) : Int) = ((q.log2 + 1 : Nat) : Int) from rfl)
    obtain ⟨lg, hlg⟩ : ∃ lg, q.log2 + 1 = lg := ⟨_, rfl⟩
    rw [hlg] at hy hy1 hwy HG
    rw [HG.out]
    clear hB hy2 h1 hlg h3 hq HG
    go_wp2_with fail
    go_ret
    exact ⟨rfl, rfl⟩
  · have h8i : (256 : Int) ≤ (q : Int) := by omega
    obtain ⟨x, hx⟩ : ∃ x, q / 256 = x := ⟨_, rfl⟩
    have hx4 : 1 ≤ x ∧ x ≤ 3 := by omega
    have hqs : x < tb.size := by omega
    have hx256 : x < 256 := by omega
    obtain ⟨y, hy, hy2, hy0, hy1⟩ := byteAt tb hqs
    have h1 := hB ⟨x, hx256⟩
    rw [hy2, if_neg (show ¬ x = 0 by omega)] at h1
    obtain rfl := Option.some.inj h1
    have hqI : (x : Int) < (tb.size : Int) := by omega
    have hxi : (q : Int) / 256 = (x : Int) := by omega
    have hlx : x.log2 + 8 = q.log2 := by
      obtain ⟨_, _, p1, p2⟩ := wdt_is h3 hq
      have p1' : 2 ^ q.log2 ≤ q := p1
      have p2' : q < 2 ^ (q.log2 + 1) := p2
      have q8 : 8 ≤ q.log2 := by
        rcases Nat.lt_or_ge q.log2 8 with h | h
        · have : 2 ^ (q.log2 + 1) ≤ 2 ^ 8 := Nat.pow_le_pow_right (by omega) h
          omega
        · exact h
      rcases (show q.log2 = 8 ∨ q.log2 = 9 by omega) with h | h
      · rw [h] at p1' p2' ⊢
        have : x = 1 := by omega
        subst this; rfl
      · rw [h] at p1' p2' ⊢
        rcases (show x = 2 ∨ x = 3 by omega) with rfl | rfl <;> rfl
    have hwy : IntKind.i64.wrap ((x.log2 + 1 : Nat) : Int) = ((x.log2 + 1 : Nat) : Int) := IntWalk.i64_in _ ⟨by omega, by omega⟩
    have hwa : IntKind.i64.wrap (8 + ((x.log2 + 1 : Nat) : Int)) = ((wdt q + 1 : Nat) : Int) := by
      rw [IntWalk.i64_in _ ⟨by omega, by omega⟩]; unfold wdt; omega
    have hwu : IntKind.u8.wrap (x : Int) = (x : Int) := by rw [IntKind.wrap_u8]; omega
    obtain ⟨lg, hlg⟩ : ∃ lg, x.log2 + 1 = lg := ⟨_, rfl⟩
    obtain ⟨W1, hW1⟩ : ∃ W1, wdt q + 1 = W1 := ⟨_, rfl⟩
    rw [hlg] at hy hy1 hwy hwa
    rw [hW1] at hwa ⊢
    clear hB hy2 h1 hlg h3 hq hlx hlb hx hW1
    go_wp2_with fail
    go_ret
    exact ⟨rfl, rfl⟩

set_option maxRecDepth 100000 in
set_option maxHeartbeats 1000000 in
theorem implWd {p k g : Int} {q : Nat} {mul : Nat → Nat → Nat} (hK : Kd p k g q mul) (w : World) :
    Calls Tryz.prog 31 #[.agg #[.int .i64 p, .int .i64 k, .int .i64 g]] w (Gives (.int .i64 (wdt q : Nat)) w) := by
  have HX := hide (Box.start w 25 p k g)
  obtain ⟨c0, c1, c2⟩ := HX.out.cells
  obtain ⟨hq3, hq⟩ := hK.big
  obtain ⟨hw1, hw9, _, _⟩ := wdt_is hq3 hq
  have HSZ := hide (implSize hK)
  have HL := hide (fun w => implLen64N q hq3 hq w)
  have hwu : IntKind.u64.wrap (q : Int) = (q : Int) := by rw [IntKind.wrap_u64]; omega
  have hwm : IntKind.i64.wrap (((wdt q + 1 : Nat) : Int) - 1) = ((wdt q : Nat) : Int) := by rw [IntWalk.i64_in _ ⟨by omega, by omega⟩]; omega
  obtain ⟨W, hW⟩ : ∃ W, wdt q = W := ⟨_, rfl⟩
  obtain ⟨W1, hW1⟩ : ∃ W1, W + 1 = W1 := ⟨_, rfl⟩
  rw [hW, hW1] at hwm HL
  rw [hW]
  clear hW hW1
  go_enter Tryz.func31, Tryz.ntmps31
  go_wp2_with fail
  refine (HSZ.out _).mono ?_
  rintro e w1 ⟨rfl, hb1⟩
  have HX1 := hide (HX.out.next hb1)
  clear hb1
  go_wp2_with fail
  refine (HL.out _).mono ?_
  rintro e _ ⟨rfl, rfl⟩
  go_wp2_with fail
  go_ret
  exact ⟨rfl, HX1.out.2⟩

end Go.Proofs.YtncgeoliboidhaaGreat
