/-
  The contracts of StringOfBits, BitsText and ReadBits, of the program and of the model.
  Condition: the slices and strings are shorter than 2^40.
-/
import Derived.Test.YtfjagcalfnjddaaStr
import Derived.Test.YtfjagcalfnjddaaStrMath
namespace Go.Proofs.Ytfjagcalfnjddaa
open Go.RowKit

theorem implNumberOf_is (A : Option Addr) (n c B : Nat) (zs : List Int) (q : Int) (w : World) (hI : Ints .i64 w B A n zs) (hn : n ≤ 32) (hb : ∀ x ∈ zs, x = 0 ∨ x = 1) (hq : numVal zs = q) :
    Calls Try.prog 50 #[.slice A n c] w fun e w' => e = .returned (.int .i64 q) ∧ w = w' := by
  rw [← hq]; exact implNumberOf A n c B zs w hI hn hb
theorem specNumber_is (A : Option Addr) (n c B lo wd : Nat) (zs : List Int) (q : Int) (w : World) (hI : Ints .i64 w B A n zs) (hn : n ≤ 1099511627776) (hwd : wd ≤ 32) (hlo : lo + wd ≤ n) (hb : ∀ x ∈ zs, x = 0 ∨ x = 1) (hq : numVal ((zs.drop lo).take wd) = q) :
    Calls Try.prog 58 #[.slice A n c, .int .i64 (lo : Int), .int .i64 (wd : Int)] w fun e w' => e = .returned (.int .i64 q) ∧ w = w' := by
  rw [← hq]; exact specNumber A n c B lo wd zs w hI hn hwd hlo hb

/-- What a function leaves that returns a string and a code. -/
def GivesS (s : ByteArray) (r : Int) (w : World) (x : Ending) (w' : World) : Prop := x = .returned (.tuple #[.string s, .int .i64 r]) ∧ Below w.heap.size w w'

def ByteRel (n : Nat) (ns : List Int) (base : Nat) (w : World) (v i : Value) (wr : World) : Prop :=
  ∃ k p : Nat, k ≤ ns.length ∧ p ≤ n ∧ p = 8 * k ∧ i = .int .i64 p ∧ Own wr base 5 .u8 v (ns.take k) ∧ Below base w wr

set_option maxHeartbeats 1000000 in
theorem implStringOf (A : Option Addr) (n c B : Nat) (zs : List Int) (w : World) (hI : Ints .i64 w B A n zs) (hB : B ≤ w.heap.size) (hn : n ≤ 1099511627776) (hc : n ≤ c) (hcm : c ≤ 9223372036854775807) :
    Calls Try.prog 22 #[.slice A n c] w (GivesS (sobOf zs) (sobCode zs) w) := by
  have hl := hide hI.len
  have HI := hide hI
  clear hI
  rcases hb : isBits zs with _ | _
  · have HB := hide hb
    have HR := hide (sob_bad hb)
    clear hb
    rw [HR.out, sobOf_bad HR (by decide)]
    go_enter Try.func22, Try.ntmps22
    go_wp2_with fail
    refine (implIsBits_no A n c B zs w HI hn HB).mono ?_
    rintro e w ⟨rfl, rfl⟩
    go_wp2_with fail
    go_ret2
    exact ⟨rfl, Below.refl _ _⟩
  · have HB := hide hb
    by_cases hm : n % 8 = 0
    · have HM := hide hm
      have HR := hide (sob_ok hb (by rw [hl.out]; exact hm))
      have HF := hide (show sobOf zs = strOf (strBytes zs) by rw [sobOf, if_pos HR.out])
      have HAll := hide (isBits_all hb)
      have hm2 : ((n : Int) % 8 != 0) = false := by simp; omega
      clear hb hm
      rw [HR.out, HF.out]
      go_enter Try.func22, Try.ntmps22
      go_wp2_with fail
      refine (implIsBits_yes A n c B zs w HI hn HB).mono ?_
      rintro e w ⟨rfl, rfl⟩
      go_wp2_with (at_make; refine wpList_mk0 _ rfl _ _ _ rfl elem8 .i64 .i64 _ (n / 8) rfl rfl (by omega) (by omega) ?_; intro w1 hown hbel; have HO := hide hown; have HBl := hide hbel; clear hown hbel)
      clear hm2
      go_loopw [4, 5] (fun u i wr => ByteRel n (strBytes zs) w.heap.size w u i wr) (fun _ i _ => n - (intOf i).toNat)
      case atStart => exact ⟨0, 0, by omega, by omega, rfl, rfl, HO, HBl⟩
      case round =>
        clear HO HBl w1
        obtain ⟨u, rfl⟩ : ∃ u : Value, u = u4 := ⟨_, rfl⟩
        obtain ⟨k, p, hk, hp, hpk, rfl, hOwn, hBl⟩ := hrel
        have HP := hide hpk
        have HK := hide hk
        have HO := hide hOwn
        have HBl := hide hBl
        clear hOwn hBl hpk hk
        by_cases hlt : p < n
        · have hp8 : p + 8 ≤ n := by have := HP.out; have := HM.out; omega
          have HK8 := hide (show k < zs.length / 8 by rw [hl.out]; have := HP.out; omega)
          have hcp : ¬ c = p := by omega
          have HS := hide (show Ints .i64 wr B (A.map (fun x => x.add p)) 8 ((zs.drop p).take 8) by
            have := (HI.out.below (HBl.out.mono hB)).sub (lo := p) (m := 8) hc hp8
            rw [subA, if_neg hcp] at this; exact this)
          have HA := hide (show ∀ x ∈ (zs.drop p).take 8, x = 0 ∨ x = 1 from fun x hx => HAll.out x (List.mem_of_mem_drop (List.mem_of_mem_take hx)))
          obtain ⟨q, hq⟩ : ∃ q, numVal ((zs.drop p).take 8) = q := ⟨_, rfl⟩
          have HQ := hide hq
          have hqb := numVal8 (zs := (zs.drop p).take 8) (by rw [List.length_take]; omega) HA.out
          rw [hq] at hqb
          obtain ⟨hq0, hq1⟩ := hqb
          have HT := hide (show (strBytes zs)[k]? = some q by rw [strBytes_at HK8.out, ← HP.out, hq])
          clear hq
          have hbz : w.heap.size ≤ wr.heap.size := HBl.out.size
          have hlen : ((strBytes zs).take k).length + 1 ≤ 1099511627777 := by rw [List.length_take, strBytes_len, hl.out]; omega
          go_wp2_with fail
          refine (implNumberOf_is _ 8 _ B _ q wr HS (by omega) HA HQ).mono ?_
          rintro e wr ⟨rfl, rfl⟩
          go_wp2_with (at_builtin; refine wpList_app1 wr rfl _ _ _ rfl elem8 w.heap.size u _ rfl HO.out q rfl (by omega) hbz ?_; intro v' w1 hown1 hgrow)
          have HO1 := hide hown1
          have HG1 := hide hgrow
          clear hown1 hgrow
          go_wp2
          go_roundw
          case rel =>
            refine ⟨k + 1, p + 8, by rw [strBytes_len]; have := HK8.out; omega, hp8, by have := HP.out; omega, by go_num, ?_, HBl.out.grown HG1 hbz (fun g hg => (HO.out.lt hg).1)⟩
            rw [take_snocI HT]
            exact HO1
          case measure => simp [intOf]; omega
        · have HO' := hide (show Own wr w.heap.size 5 .u8 u (strBytes zs) by
            have h := HO.out
            rw [List.take_of_length_le (by rw [strBytes_len, hl.out]; have := HP.out; omega)] at h
            exact h)
          clear HO
          obtain ⟨A1, c1, rfl, hc1⟩ := HO'.out.form
          have hconv := run_str wr elem8 Try.underlying5 Try.underlying9 c1 HO'.out.ints
          clear hc1
          go_wp2
          go_ret2
          exact ⟨rfl, HBl⟩
    · have HM := hide hm
      have HR := hide (sob_len hb (by rw [hl.out]; exact hm))
      have hm2 : ((n : Int) % 8 != 0) = true := by simp; omega
      clear hb
      rw [HR.out, sobOf_bad HR (by decide)]
      go_enter Try.func22, Try.ntmps22
      go_wp2_with fail
      refine (implIsBits_yes A n c B zs w HI hn HB).mono ?_
      rintro e w ⟨rfl, rfl⟩
      go_wp2_with fail
      go_ret2
      exact ⟨rfl, Below.refl _ _⟩

set_option maxHeartbeats 1000000 in
theorem specStringL (A : Option Addr) (n c B : Nat) (zs : List Int) (w : World) (hI : Ints .i64 w B A n zs) (hB : B ≤ w.heap.size) (hn : n ≤ 1099511627776) (hm : n % 8 = 0) (hall : ∀ x ∈ zs, x = 0 ∨ x = 1) :
    Calls Try.prog 53 #[.slice A n c] w (Gives (.string (strOf (strBytes zs))) w) := by
  have hl := hide hI.len
  have HI := hide hI
  have HM := hide hm
  have HAll := hide hall
  clear hI hm hall
  go_enter Try.func53, Try.ntmps53
  go_wp2
  go_loopw [3, 4] (fun u i wr => ByteRel n (strBytes zs) w.heap.size w u i wr) (fun _ i _ => n - (intOf i).toNat)
  case atStart => exact ⟨0, 0, by omega, by omega, rfl, rfl, Own.lit0 w _ _, (Below.refl _ _).alloc (Nat.le_refl _) _⟩
  case round =>
    obtain ⟨u, rfl⟩ : ∃ u : Value, u = u3 := ⟨_, rfl⟩
    obtain ⟨k, p, hk, hp, hpk, rfl, hOwn, hBl⟩ := hrel
    have HP := hide hpk
    have HK := hide hk
    have HO := hide hOwn
    have HBl := hide hBl
    clear hOwn hBl hpk hk
    by_cases hlt : p + 8 ≤ n
    · have HK8 := hide (show k < zs.length / 8 by rw [hl.out]; have := HP.out; omega)
      have HS := hide (HI.out.below (HBl.out.mono hB))
      have HA := hide (show ∀ x ∈ (zs.drop p).take 8, x = 0 ∨ x = 1 from fun x hx => HAll.out x (List.mem_of_mem_drop (List.mem_of_mem_take hx)))
      obtain ⟨q, hq⟩ : ∃ q, numVal ((zs.drop p).take 8) = q := ⟨_, rfl⟩
      have HQ := hide hq
      have hqb := numVal8 (zs := (zs.drop p).take 8) (by rw [List.length_take]; omega) HA.out
      rw [hq] at hqb
      obtain ⟨hq0, hq1⟩ := hqb
      have HT := hide (show (strBytes zs)[k]? = some q by rw [strBytes_at HK8.out, ← HP.out, hq])
      clear hq
      have hbz : w.heap.size ≤ wr.heap.size := HBl.out.size
      have hlen : ((strBytes zs).take k).length + 1 ≤ 1099511627777 := by rw [List.length_take, strBytes_len, hl.out]; omega
      go_wp2_with fail
      refine (specNumber_is A n c B p 8 zs q wr HS hn (by omega) hlt HAll HQ).mono ?_
      rintro e wr ⟨rfl, rfl⟩
      go_wp2_with (at_builtin; refine wpList_app1 wr rfl _ _ _ rfl elem8 w.heap.size u _ rfl HO.out q rfl (by omega) hbz ?_; intro v' w1 hown1 hgrow)
      have HO1 := hide hown1
      have HG1 := hide hgrow
      clear hown1 hgrow
      go_wp2
      go_roundw
      case rel =>
        refine ⟨k + 1, p + 8, by rw [strBytes_len]; have := HK8.out; omega, hlt, by have := HP.out; omega, by go_num, ?_, HBl.out.grown HG1 hbz (fun g hg => (HO.out.lt hg).1)⟩
        rw [take_snocI HT]
        exact HO1
      case measure => simp [intOf]; omega
    · have HO' := hide (show Own wr w.heap.size 5 .u8 u (strBytes zs) by
        have h := HO.out
        rw [List.take_of_length_le (by rw [strBytes_len, hl.out]; have := HP.out; have := HM.out; omega)] at h
        exact h)
      clear HO
      obtain ⟨A1, c1, rfl, hc1⟩ := HO'.out.form
      have hconv := run_str wr elem8 Try.underlying5 Try.underlying9 c1 HO'.out.ints
      clear hc1
      go_wp2
      go_ret
      exact ⟨rfl, HBl⟩

set_option maxHeartbeats 400000 in
theorem specStringOf (A : Option Addr) (n c B : Nat) (zs : List Int) (w : World) (hI : Ints .i64 w B A n zs) (hB : B ≤ w.heap.size) (hn : n ≤ 1099511627776) :
    Calls Try.prog 23 #[.slice A n c] w (GivesS (sobOf zs) (sobCode zs) w) := by
  have hl := hide hI.len
  have HI := hide hI
  clear hI
  rcases hb : isBits zs with _ | _
  · have HB := hide hb
    have HR := hide (sob_bad hb)
    clear hb
    rw [HR.out, sobOf_bad HR (by decide)]
    go_enter Try.func23, Try.ntmps23
    go_wp2_with fail
    refine (specIsBits_no A n c B zs w HI hn HB).mono ?_
    rintro e w ⟨rfl, rfl⟩
    go_wp2_with fail
    go_ret2
    exact ⟨rfl, Below.refl _ _⟩
  · have HB := hide hb
    by_cases hm : n % 8 = 0
    · have HM := hide hm
      have HR := hide (sob_ok hb (by rw [hl.out]; exact hm))
      have HF := hide (show sobOf zs = strOf (strBytes zs) by rw [sobOf, if_pos HR.out])
      have HAll := hide (isBits_all hb)
      have hm2 : ((n : Int) % 8 != 0) = false := by simp; omega
      clear hb hm
      rw [HR.out, HF.out]
      go_enter Try.func23, Try.ntmps23
      go_wp2_with fail
      refine (specIsBits_yes A n c B zs w HI hn HB).mono ?_
      rintro e w ⟨rfl, rfl⟩
      go_wp2_with fail
      refine (specStringL A n c B zs w HI hB hn HM HAll).mono ?_
      rintro e w1 ⟨rfl, hbel⟩
      have HBl := hide hbel
      clear hbel
      go_wp2_with fail
      go_ret2
      exact ⟨rfl, HBl⟩
    · have HR := hide (sob_len hb (by rw [hl.out]; exact hm))
      have hm2 : ((n : Int) % 8 != 0) = true := by simp; omega
      clear hb hm
      rw [HR.out, sobOf_bad HR (by decide)]
      go_enter Try.func23, Try.ntmps23
      go_wp2_with fail
      refine (specIsBits_yes A n c B zs w HI hn HB).mono ?_
      rintro e w ⟨rfl, rfl⟩
      go_wp2_with fail
      go_ret2
      exact ⟨rfl, Below.refl _ _⟩
end Go.Proofs.Ytfjagcalfnjddaa
