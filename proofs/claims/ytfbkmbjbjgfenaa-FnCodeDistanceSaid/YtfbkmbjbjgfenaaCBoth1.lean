/-
  What GeneratorOf, EncodeWord, IsCodeWord, SyndromesOf and MessageOf return, case by case, of the model and of the program, side by side.
  Condition: lists shorter than 2^20; the number of check elements is an int64.
-/
import Derived.Test.YtfbkmbjbjgfenaaCode8
import Derived.Test.YtfbkmbjbjgfenaaCode6
import Derived.Test.YtfbkmbjbjgfenaaJK
namespace Go.Proofs.Ytfbkmbjbjgfenaa
open Go.RowKit
set_option linter.unusedSimpArgs false
set_option linter.unusedVariables false

/-- A function of a code and no list, one list, two lists: its contract, whatever the lists' memory. -/
def D0 (f : Nat) (p k g L C : Int) (Post : World → Ending → World → Prop) : Prop :=
  ∀ w : World, Calls Try.prog f #[.agg #[.int .i64 p, .int .i64 k, .int .i64 g, .int .i64 L, .int .i64 C]] w (Post w)
def D1 (f : Nat) (p k g L C : Int) (z : List Int) (Post : World → Ending → World → Prop) : Prop :=
  ∀ (A : Option Addr) (n c B : Nat) (w : World), Ints .i64 w B A n z → n ≤ c → B ≤ w.heap.size → Calls Try.prog f #[.agg #[.int .i64 p, .int .i64 k, .int .i64 g, .int .i64 L, .int .i64 C], .slice A n c] w (Post w)
def D2 (f : Nat) (p k g L C : Int) (z z' : List Int) (Post : World → Ending → World → Prop) : Prop :=
  ∀ (A : Option Addr) (n c : Nat) (A' : Option Addr) (n' c' B : Nat) (w : World), Ints .i64 w B A n z → Ints .i64 w B A' n' z' → n ≤ c → n' ≤ c' → B ≤ w.heap.size → Calls Try.prog f #[.agg #[.int .i64 p, .int .i64 k, .int .i64 g, .int .i64 L, .int .i64 C], .slice A n c, .slice A' n' c'] w (Post w)
theorem wErr_ne {p k g L C : Int} {Z : List (List Int)} : (∃ cd : Int, wErr p k g L C Z = cd ∧ (cd != 0) = true) ∨
    (wErr p k g L C Z = 0 ∧ ∃ (R : Fld) (γ : El R) (l c : Nat), L = l ∧ C = c ∧ CodeIs R γ p k g l c ∧ ∀ zs ∈ Z, ∃ ws : List (El R), zs = iv ws ∧ ws.length = l) := by
  rcases wErr_cases p k g L C Z with ⟨h, _⟩ | ⟨h, _⟩ | h
  · exact .inl ⟨1, h, rfl⟩
  · exact .inl ⟨2, h, rfl⟩
  · exact .inr h
theorem wErr_is {R : Fld} {γ : El R} {p k g : Int} {l c : Nat} (h : CodeIs R γ p k g l c) {Z : List (List Int)} (hz : ∀ zs ∈ Z, ∃ ws : List (El R), zs = iv ws ∧ ws.length = l) : wErr p k g l c Z = 0 :=
  wErr_ok (codeB_is h) h.fld.kind fun zs hm => by obtain ⟨ws, rfl, hl⟩ := hz zs hm; rw [← hl]; exact word_shut ws
theorem c_bd {R : Fld} {γ : El R} {p k g : Int} {l c : Nat} (h : CodeIs R γ p k g l c) : -9223372036854775808 ≤ (c : Int) ∧ (c : Int) ≤ 9223372036854775807 := by have := h.c64; omega

set_option maxRecDepth 100000 in
set_option maxHeartbeats 4000000 in
theorem gen_bad (p k g L C : Int) (hC : -9223372036854775808 ≤ C ∧ C ≤ 9223372036854775807) (h : codeB p k g L C = false) :
    D0 37 p k g L C (NewIK [] 1) ∧ D0 36 p k g L C (NewIK [] 1) := by
  have HB := hide h
  have HC := hide hC
  clear h hC
  refine ⟨?_, ?_⟩
  · intro w
    have HX := hide (CBox.start w p k g L C)
    go_enter Try.func37, Try.ntmps37
    go_wp2_with fail
    refine (specIsCode p k g L C _ HC.out).mono ?_
    rw [HB.out]
    rintro e w1 ⟨rfl, hb⟩
    have HX1 := hide (HX.out.next hb)
    obtain ⟨c0, c1, c2, c3, c4⟩ := HX1.out.cells
    clear hb
    go_wp2_with fail
    go_ret2
    exact newIK_nil HX1.out.2
  · intro w
    have HX := hide (CBox.start w p k g L C)
    go_enter Try.func36, Try.ntmps36
    go_wp2_with fail
    refine (implCodeValid p k g L C _).mono ?_
    rw [HB.out]
    rintro e w1 ⟨rfl, hb⟩
    have HX1 := hide (HX.out.next hb)
    obtain ⟨c0, c1, c2, c3, c4⟩ := HX1.out.cells
    clear hb
    go_wp2_with fail
    go_ret2
    exact newIK_nil HX1.out.2

set_option maxRecDepth 100000 in
set_option maxHeartbeats 4000000 in
theorem gen_val {R : Fld} {γ : El R} {p k g : Int} {l c : Nat} (h : CodeIs R γ p k g l c) :
    D0 37 p k g l c (NewIK (iv (genP γ c)) 0) ∧ D0 36 p k g l c (NewIK (iv (genP γ c)) 0) := by
  have HB := hide (codeB_is h)
  have HC := hide (c_bd h)
  refine ⟨?_, ?_⟩
  · intro w
    have HX := hide (CBox.start w p k g l c)
    go_enter Try.func37, Try.ntmps37
    go_wp2_with fail
    refine (specIsCode p k g l c _ HC.out).mono ?_
    rw [HB.out]
    rintro e w1 ⟨rfl, hb⟩
    have HX1 := hide (HX.out.next hb)
    obtain ⟨c0, c1, c2, c3, c4⟩ := HX1.out.cells
    clear hb
    go_wp2_with fail
    refine (specGenPoly h _).mono ?_
    rintro e w2 ⟨A1, m1, rfl, hm1, ho, hb⟩
    have HX2 := hide (HX1.out.next hb)
    have HO := hide (newIK_of (c := 0) ho HX2.out.2 (Nat.le_of_lt HX1.out.lt))
    clear ho hb c0 c1 c2 c3 c4
    go_wp2_with fail
    go_ret2
    exact HO.out
  · intro w
    have HX := hide (CBox.start w p k g l c)
    go_enter Try.func36, Try.ntmps36
    go_wp2_with fail
    refine (implCodeValid p k g l c _).mono ?_
    rw [HB.out]
    rintro e w1 ⟨rfl, hb⟩
    have HX1 := hide (HX.out.next hb)
    obtain ⟨c0, c1, c2, c3, c4⟩ := HX1.out.cells
    clear hb
    go_wp2_with fail
    refine (implGenPoly h _).mono ?_
    rintro e w2 ⟨A1, m1, rfl, hm1, ho, hb⟩
    have HX2 := hide (HX1.out.next hb)
    have HO := hide (newIK_of (c := 0) ho HX2.out.2 (Nat.le_of_lt HX1.out.lt))
    clear ho hb c0 c1 c2 c3 c4
    go_wp2_with fail
    go_ret2
    exact HO.out

set_option maxRecDepth 100000 in
set_option maxHeartbeats 4000000 in
theorem enc_bad1 (p k g L C : Int) (z : List Int) (hz : z.length ≤ 1048576) (hC : -9223372036854775808 ≤ C ∧ C ≤ 9223372036854775807) (h : codeB p k g L C = false) :
    D1 19 p k g L C (z) (NewIK [] 1) ∧ D1 18 p k g L C (z) (NewIK [] 1) := by
  have HB := hide h
  have HC := hide hC
  clear h hC
  refine ⟨?_, ?_⟩
  · intro A n cw B w hI hcap hB
    have HX := hide (CBox.start w p k g L C)
    have hn : n ≤ 1048576 := by rw [← hI.len]; exact hz
    have HI := hide hI
    clear hI
    go_enter Try.func19, Try.ntmps19
    go_wp2_with fail
    refine (specIsCode p k g L C _ HC.out).mono ?_
    rw [HB.out]
    rintro e w1 ⟨rfl, hb⟩
    have HX1 := hide (HX.out.next hb)
    obtain ⟨c0, c1, c2, c3, c4⟩ := HX1.out.cells
    clear hb
    go_wp2_with fail
    go_ret2
    exact newIK_nil HX1.out.2
  · intro A n cw B w hI hcap hB
    have HX := hide (CBox.start w p k g L C)
    have hn : n ≤ 1048576 := by rw [← hI.len]; exact hz
    have HI := hide hI
    clear hI
    go_enter Try.func18, Try.ntmps18
    go_wp2_with fail
    refine (implCodeValid p k g L C _).mono ?_
    rw [HB.out]
    rintro e w1 ⟨rfl, hb⟩
    have HX1 := hide (HX.out.next hb)
    obtain ⟨c0, c1, c2, c3, c4⟩ := HX1.out.cells
    clear hb
    go_wp2_with fail
    go_ret2
    exact newIK_nil HX1.out.2

set_option maxRecDepth 100000 in
set_option maxHeartbeats 4000000 in
theorem enc_bad2 {R : Fld} {γ : El R} {p k g : Int} {l c : Nat} (h : CodeIs R γ p k g l c) (z : List Int) (hz : z.length ≤ 1048576) (hw : wordB R.q ((l - c : Nat) : Int) z = false) :
    D1 19 p k g l c (z) (NewIK [] 2) ∧ D1 18 p k g l c (z) (NewIK [] 2) := by
  have HB := hide (codeB_is h)
  have HC := hide (c_bd h)
  have HW := hide hw
  clear hw
  refine ⟨?_, ?_⟩
  · intro A n cw B w hI hcap hB
    have HX := hide (CBox.start w p k g l c)
    have hn : n ≤ 1048576 := by rw [← hI.len]; exact hz
    have hl := hI.len
    have HI := hide hI
    clear hI
    have hcl := h.cl
    have hl255 := h.l255
    rcases (show ((n : Int) != (l : Int) - (c : Int)) = true ∨ (((n : Int) != (l : Int) - (c : Int)) = false ∧ z.all (elB R.q) = false) by
        rcases hh : ((n : Int) != (l : Int) - (c : Int)) with _ | _
        · refine .inr ⟨rfl, ?_⟩
          rw [← wordB_all (L := ((l - c : Nat) : Int)) (by rw [hl]; simp at hh; omega)]; exact HW.out
        · exact .inl rfl) with z1 | ⟨z1, z2⟩
    · go_enter Try.func19, Try.ntmps19
      go_wp2_with fail
      refine (specIsCode p k g l c _ HC.out).mono ?_
      rw [HB.out]
      rintro e w1 ⟨rfl, hb⟩
      have HX1 := hide (HX.out.next hb)
      obtain ⟨c0, c1, c2, c3, c4⟩ := HX1.out.cells
      clear hb
      go_wp2_with fail
      go_ret2
      exact newIK_nil HX1.out.2
    · have HA := hide z2
      clear z2
      go_enter Try.func19, Try.ntmps19
      go_wp2_with fail
      refine (specIsCode p k g l c _ HC.out).mono ?_
      rw [HB.out]
      rintro e w1 ⟨rfl, hb⟩
      have HX1 := hide (HX.out.next hb)
      obtain ⟨c0, c1, c2, c3, c4⟩ := HX1.out.cells
      clear hb
      go_wp2_with fail
      refine (specIs h.fld.kind A n cw B z _ (HI.out.below (HX1.out.2.mono hB)) (Nat.le_trans hB (Nat.le_of_lt HX1.out.lt)) (by omega)).mono ?_
      rw [HA.out]
      rintro e w2 ⟨rfl, hb⟩
      have HX2 := hide (HX1.out.next hb)
      clear hb
      go_wp2_with fail
      go_ret2
      exact newIK_nil HX2.out.2
  · intro A n cw B w hI hcap hB
    have HX := hide (CBox.start w p k g l c)
    have hn : n ≤ 1048576 := by rw [← hI.len]; exact hz
    have HI := hide hI
    clear hI
    go_enter Try.func18, Try.ntmps18
    go_wp2_with fail
    refine (implCodeValid p k g l c _).mono ?_
    rw [HB.out]
    rintro e w1 ⟨rfl, hb⟩
    have HX1 := hide (HX.out.next hb)
    obtain ⟨c0, c1, c2, c3, c4⟩ := HX1.out.cells
    clear hb
    go_wp2_with fail
    go_region_held3 (fun w' => w'.cell? ⟨w.heap.size, 0, none⟩ = some (.int .i64 p) ∧ w'.cell? ⟨w.heap.size, 1, none⟩ = some (.int .i64 k) ∧ w'.cell? ⟨w.heap.size, 2, none⟩ = some (.int .i64 g) ∧ w'.cell? ⟨w.heap.size, 3, none⟩ = some (.int .i64 l) ∧ w'.cell? ⟨w.heap.size, 4, none⟩ = some (.int .i64 c))
      (first
        | exact HX1.out.drew.cells
        | exact HX2.out.cells
        | exact HX3.out.cells)
      (first
        | (go_at_call 54; refine (implMsgLen p k g l c h.l255 h.cl _).mono ?_; rintro e w2 ⟨rfl, hb⟩; have HX2 := hide (HX1.out.drew.next hb); clear hb)
        | (go_at_call 53; refine (implHasList h.fld.kind ((l - c : Nat) : Int) A n cw B (z) _ (HI.out.below (HX2.out.2.mono hB)) (Nat.le_trans hB (Nat.le_of_lt HX2.out.lt)) (by omega)).mono ?_; rw [HW.out]; rintro e w3 ⟨rfl, hb⟩; have HX3 := hide (HX2.out.next hb); clear hb))
    clear c0 c1 c2 c3 c4
    obtain ⟨c0, c1, c2, c3, c4⟩ := HX3.out.cells
    go_wp2_with fail
    go_ret2
    exact newIK_nil HX3.out.2

set_option maxRecDepth 100000 in
set_option maxHeartbeats 4000000 in
theorem enc_val {R : Fld} {γ : El R} {p k g : Int} {l c : Nat} (h : CodeIs R γ p k g l c) (ms : List (El R)) (hz : (iv ms).length ≤ 1048576) (hm : ms.length = l - c) :
    D1 19 p k g l c (iv ms) (NewIK (iv (encW γ c ms)) 0) ∧ D1 18 p k g l c (iv ms) (NewIK (iv (encW γ c ms)) 0) := by
  have HB := hide (codeB_is h)
  have HC := hide (c_bd h)
  have HW := hide (show wordB R.q ((l - c : Nat) : Int) (iv ms) = true by rw [← hm]; exact word_shut ms)
  have HA := hide (iv_all ms)
  refine ⟨?_, ?_⟩
  · intro A n cw B w hI hcap hB
    have HX := hide (CBox.start w p k g l c)
    have hn : n ≤ 1048576 := by rw [← hI.len]; exact hz
    have hml : ms.length = n := by rw [← iv_len]; exact hI.len
    have HI := hide hI
    clear hI
    have hcl := h.cl
    have hl255 := h.l255
    have hnl : n + c = l := by omega
    have z1 : ((n : Int) != (l : Int) - (c : Int)) = false := by simp; omega
    go_enter Try.func19, Try.ntmps19
    go_wp2_with fail
    refine (specIsCode p k g l c _ HC.out).mono ?_
    rw [HB.out]
    rintro e w1 ⟨rfl, hb⟩
    have HX1 := hide (HX.out.next hb)
    obtain ⟨c0, c1, c2, c3, c4⟩ := HX1.out.cells
    clear hb
    go_wp2_with fail
    refine (specIs h.fld.kind A n cw B (iv ms) _ (HI.out.below (HX1.out.2.mono hB)) (Nat.le_trans hB (Nat.le_of_lt HX1.out.lt)) (by omega)).mono ?_
    rw [HA.out]
    rintro e w2 ⟨rfl, hb⟩
    have HX2 := hide (HX1.out.next hb)
    clear hb c0 c1 c2 c3 c4
    obtain ⟨c0, c1, c2, c3, c4⟩ := HX2.out.cells
    go_wp2_with fail
    refine (specEncode h ms A n cw B _ (HI.out.below (HX2.out.2.mono hB)) (Nat.le_trans hB (Nat.le_of_lt HX2.out.lt)) hnl).mono ?_
    rintro e w4 ⟨A1, m1, rfl, hm1, ho, hb⟩
    have HX4 := hide (HX2.out.next hb)
    have HO := hide (newIK_of (c := 0) ho HX4.out.2 (Nat.le_of_lt HX2.out.lt))
    clear ho hb c0 c1 c2 c3 c4
    go_wp2_with fail
    go_ret2
    exact HO.out
  · intro A n cw B w hI hcap hB
    have HX := hide (CBox.start w p k g l c)
    have hn : n ≤ 1048576 := by rw [← hI.len]; exact hz
    have hml : ms.length = n := by rw [← iv_len]; exact hI.len
    have HI := hide hI
    clear hI
    have hcl := h.cl
    have hl255 := h.l255
    have hnl : n + c = l := by omega
    go_enter Try.func18, Try.ntmps18
    go_wp2_with fail
    refine (implCodeValid p k g l c _).mono ?_
    rw [HB.out]
    rintro e w1 ⟨rfl, hb⟩
    have HX1 := hide (HX.out.next hb)
    obtain ⟨c0, c1, c2, c3, c4⟩ := HX1.out.cells
    clear hb
    go_wp2_with fail
    go_region_held3 (fun w' => w'.cell? ⟨w.heap.size, 0, none⟩ = some (.int .i64 p) ∧ w'.cell? ⟨w.heap.size, 1, none⟩ = some (.int .i64 k) ∧ w'.cell? ⟨w.heap.size, 2, none⟩ = some (.int .i64 g) ∧ w'.cell? ⟨w.heap.size, 3, none⟩ = some (.int .i64 l) ∧ w'.cell? ⟨w.heap.size, 4, none⟩ = some (.int .i64 c))
      (first
        | exact HX1.out.drew.cells
        | exact HX2.out.cells
        | exact HX3.out.cells)
      (first
        | (go_at_call 54; refine (implMsgLen p k g l c h.l255 h.cl _).mono ?_; rintro e w2 ⟨rfl, hb⟩; have HX2 := hide (HX1.out.drew.next hb); clear hb)
        | (go_at_call 53; refine (implHasList h.fld.kind ((l - c : Nat) : Int) A n cw B (iv ms) _ (HI.out.below (HX2.out.2.mono hB)) (Nat.le_trans hB (Nat.le_of_lt HX2.out.lt)) (by omega)).mono ?_; rw [HW.out]; rintro e w3 ⟨rfl, hb⟩; have HX3 := hide (HX2.out.next hb); clear hb))
    clear c0 c1 c2 c3 c4
    obtain ⟨c0, c1, c2, c3, c4⟩ := HX3.out.cells
    go_wp2_with fail
    refine (implEncoded h ms A n cw B _ (HI.out.below (HX3.out.2.mono hB)) (Nat.le_trans hB (Nat.le_of_lt HX3.out.lt)) hnl).mono ?_
    rintro e w4 ⟨A1, m1, rfl, hm1, ho, hb⟩
    have HX4 := hide (HX3.out.next hb)
    have HO := hide (newIK_of (c := 0) ho HX4.out.2 (Nat.le_of_lt HX3.out.lt))
    clear ho hb c0 c1 c2 c3 c4
    go_wp2_with fail
    go_ret2
    exact HO.out

set_option maxRecDepth 100000 in
set_option maxHeartbeats 4000000 in
theorem syn_bad (p k g L C : Int) (z : List Int) (cd : Int) (hz : z.length ≤ 1048576) (hC : -9223372036854775808 ≤ C ∧ C ≤ 9223372036854775807) (h : wErr p k g L C [z] = cd) (hne : (cd != 0) = true) :
    D1 45 p k g L C (z) (NewIK [] cd) ∧ D1 24 p k g L C (z) (NewIK [] cd) := by
  have HE := hide h
  have HC := hide hC
  clear h hC
  refine ⟨?_, ?_⟩
  · intro A n cw B w hI hcap hB
    have HX := hide (CBox.start w p k g L C)
    have hn : n ≤ 1048576 := by rw [← hI.len]; exact hz
    have HR := hide (rws1b (c := cw) (.cells #[.int .i64 p, .int .i64 k, .int .i64 g, .int .i64 L, .int .i64 C] 27) 28 hI hB (by omega))
    have HXr := hide (HX.out.alloc (.cells #[.slice A n cw] 28))
    have HI := hide hI
    clear hI
    go_enter Try.func45, Try.ntmps45
    go_wp2_with fail
    refine (specWErr p k g L C HC.out _ 1 1 _ _ _ HR.out rfl (box_size _ _ _) (by omega)).mono ?_
    rw [show lists [(A, n, cw, z)] = [z] from rfl, HE.out]
    rintro e w1 ⟨rfl, hb⟩
    have HX1 := hide (HXr.out.next hb)
    obtain ⟨c0, c1, c2, c3, c4⟩ := HX1.out.cells
    clear hb
    go_wp2_with fail
    go_ret2
    exact newIK_nil HX1.out.2
  · intro A n cw B w hI hcap hB
    have HX := hide (CBox.start w p k g L C)
    have hn : n ≤ 1048576 := by rw [← hI.len]; exact hz
    have HR := hide (rws1b (c := cw) (.cells #[.int .i64 p, .int .i64 k, .int .i64 g, .int .i64 L, .int .i64 C] 27) 28 hI hB (by omega))
    have HXr := hide (HX.out.alloc (.cells #[.slice A n cw] 28))
    have HI := hide hI
    clear hI
    go_enter Try.func24, Try.ntmps24
    go_wp2_with fail
    refine (implWErr p k g L C _ 1 1 _ _ _ HR.out rfl (box_size _ _ _) (by omega)).mono ?_
    rw [show lists [(A, n, cw, z)] = [z] from rfl, HE.out]
    rintro e w1 ⟨rfl, hb⟩
    have HX1 := hide (HXr.out.next hb)
    obtain ⟨c0, c1, c2, c3, c4⟩ := HX1.out.cells
    clear hb
    go_wp2_with fail
    go_ret2
    exact newIK_nil HX1.out.2

set_option maxRecDepth 100000 in
set_option maxHeartbeats 4000000 in
theorem msg_bad (p k g L C : Int) (z : List Int) (cd : Int) (hz : z.length ≤ 1048576) (hC : -9223372036854775808 ≤ C ∧ C ≤ 9223372036854775807) (h : wErr p k g L C [z] = cd) (hne : (cd != 0) = true) :
    D1 46 p k g L C (z) (NewIK [] cd) ∧ D1 23 p k g L C (z) (NewIK [] cd) := by
  have HE := hide h
  have HC := hide hC
  clear h hC
  refine ⟨?_, ?_⟩
  · intro A n cw B w hI hcap hB
    have HX := hide (CBox.start w p k g L C)
    have hn : n ≤ 1048576 := by rw [← hI.len]; exact hz
    have HR := hide (rws1b (c := cw) (.cells #[.int .i64 p, .int .i64 k, .int .i64 g, .int .i64 L, .int .i64 C] 27) 28 hI hB (by omega))
    have HXr := hide (HX.out.alloc (.cells #[.slice A n cw] 28))
    have HI := hide hI
    clear hI
    go_enter Try.func46, Try.ntmps46
    go_wp2_with fail
    refine (specWErr p k g L C HC.out _ 1 1 _ _ _ HR.out rfl (box_size _ _ _) (by omega)).mono ?_
    rw [show lists [(A, n, cw, z)] = [z] from rfl, HE.out]
    rintro e w1 ⟨rfl, hb⟩
    have HX1 := hide (HXr.out.next hb)
    obtain ⟨c0, c1, c2, c3, c4⟩ := HX1.out.cells
    clear hb
    go_wp2_with fail
    go_ret2
    exact newIK_nil HX1.out.2
  · intro A n cw B w hI hcap hB
    have HX := hide (CBox.start w p k g L C)
    have hn : n ≤ 1048576 := by rw [← hI.len]; exact hz
    have HR := hide (rws1b (c := cw) (.cells #[.int .i64 p, .int .i64 k, .int .i64 g, .int .i64 L, .int .i64 C] 27) 28 hI hB (by omega))
    have HXr := hide (HX.out.alloc (.cells #[.slice A n cw] 28))
    have HI := hide hI
    clear hI
    go_enter Try.func23, Try.ntmps23
    go_wp2_with fail
    refine (implWErr p k g L C _ 1 1 _ _ _ HR.out rfl (box_size _ _ _) (by omega)).mono ?_
    rw [show lists [(A, n, cw, z)] = [z] from rfl, HE.out]
    rintro e w1 ⟨rfl, hb⟩
    have HX1 := hide (HXr.out.next hb)
    obtain ⟨c0, c1, c2, c3, c4⟩ := HX1.out.cells
    clear hb
    go_wp2_with fail
    go_ret2
    exact newIK_nil HX1.out.2

set_option maxRecDepth 100000 in
set_option maxHeartbeats 4000000 in
theorem syn_val {R : Fld} {γ : El R} {p k g : Int} {l c : Nat} (h : CodeIs R γ p k g l c) (ws : List (El R)) (hz : (iv ws).length ≤ 1048576) (hw : ws.length = l) :
    D1 45 p k g l c (iv ws) (NewIK (iv (synW γ c ws)) 0) ∧ D1 24 p k g l c (iv ws) (NewIK (iv (synW γ c ws)) 0) := by
  have HE := hide (wErr_is h (Z := [iv ws]) (by simp only [List.mem_singleton, forall_eq]; exact ⟨ws, rfl, hw⟩))
  have HC := hide (c_bd h)
  refine ⟨?_, ?_⟩
  · intro A n cw B w hI hcap hB
    have HX := hide (CBox.start w p k g l c)
    have hn : n ≤ 1048576 := by rw [← hI.len]; exact hz
    have HR := hide (rws1b (c := cw) (.cells #[.int .i64 p, .int .i64 k, .int .i64 g, .int .i64 l, .int .i64 c] 27) 28 hI hB (by omega))
    have HXr := hide (HX.out.alloc (.cells #[.slice A n cw] 28))
    have HI := hide hI
    have hwl : ws.length = n := by rw [← iv_len]; exact hI.len
    obtain rfl : n = l := by omega
    clear hI hwl
    go_enter Try.func45, Try.ntmps45
    go_wp2_with fail
    refine (specWErr p k g n c HC.out _ 1 1 _ _ _ HR.out rfl (box_size _ _ _) (by omega)).mono ?_
    rw [show lists [(A, n, cw, iv ws)] = [iv ws] from rfl, HE.out]
    rintro e w1 ⟨rfl, hb⟩
    have HX1 := hide (HXr.out.next hb)
    obtain ⟨c0, c1, c2, c3, c4⟩ := HX1.out.cells
    clear hb
    go_wp2_with fail
    refine (specSyndromes h ws A n cw B _ (HI.out.below (HX1.out.2.mono hB)) (Nat.le_trans hB (Nat.le_of_lt HX1.out.lt)) (by omega)).mono ?_
    rintro e w2 ⟨A1, m1, rfl, hm1, ho, hb⟩
    have HX2 := hide (HX1.out.next hb)
    have HO := hide (newIK_of (c := 0) ho HX2.out.2 (Nat.le_of_lt HX1.out.lt))
    clear ho hb c0 c1 c2 c3 c4
    go_wp2_with fail
    go_ret2
    exact HO.out
  · intro A n cw B w hI hcap hB
    have HX := hide (CBox.start w p k g l c)
    have hn : n ≤ 1048576 := by rw [← hI.len]; exact hz
    have HR := hide (rws1b (c := cw) (.cells #[.int .i64 p, .int .i64 k, .int .i64 g, .int .i64 l, .int .i64 c] 27) 28 hI hB (by omega))
    have HXr := hide (HX.out.alloc (.cells #[.slice A n cw] 28))
    have HI := hide hI
    have hwl : ws.length = n := by rw [← iv_len]; exact hI.len
    obtain rfl : n = l := by omega
    clear hI hwl
    go_enter Try.func24, Try.ntmps24
    go_wp2_with fail
    refine (implWErr p k g n c _ 1 1 _ _ _ HR.out rfl (box_size _ _ _) (by omega)).mono ?_
    rw [show lists [(A, n, cw, iv ws)] = [iv ws] from rfl, HE.out]
    rintro e w1 ⟨rfl, hb⟩
    have HX1 := hide (HXr.out.next hb)
    obtain ⟨c0, c1, c2, c3, c4⟩ := HX1.out.cells
    clear hb
    go_wp2_with fail
    refine (implSyndromes h ws A cw B _ (HI.out.below (HX1.out.2.mono hB)) (Nat.le_trans hB (Nat.le_of_lt HX1.out.lt))).mono ?_
    rintro e w2 ⟨A1, m1, rfl, hm1, ho, hb⟩
    have HX2 := hide (HX1.out.next hb)
    have HO := hide (newIK_of (c := 0) ho HX2.out.2 (Nat.le_of_lt HX1.out.lt))
    clear ho hb c0 c1 c2 c3 c4
    go_wp2_with fail
    go_ret2
    exact HO.out

set_option maxRecDepth 100000 in
set_option maxHeartbeats 4000000 in
theorem msg_val {R : Fld} {γ : El R} {p k g : Int} {l c : Nat} (h : CodeIs R γ p k g l c) (ws : List (El R)) (hz : (iv ws).length ≤ 1048576) (hw : ws.length = l) :
    D1 46 p k g l c (iv ws) (NewIK (iv (ws.take (l - c))) 0) ∧ D1 23 p k g l c (iv ws) (NewIK (iv (ws.take (l - c))) 0) := by
  have HE := hide (wErr_is h (Z := [iv ws]) (by simp only [List.mem_singleton, forall_eq]; exact ⟨ws, rfl, hw⟩))
  have HC := hide (c_bd h)
  refine ⟨?_, ?_⟩
  · intro A n cw B w hI hcap hB
    have HX := hide (CBox.start w p k g l c)
    have hn : n ≤ 1048576 := by rw [← hI.len]; exact hz
    have HR := hide (rws1b (c := cw) (.cells #[.int .i64 p, .int .i64 k, .int .i64 g, .int .i64 l, .int .i64 c] 27) 28 hI hB (by omega))
    have HXr := hide (HX.out.alloc (.cells #[.slice A n cw] 28))
    have HI := hide hI
    have hwl : ws.length = n := by rw [← iv_len]; exact hI.len
    obtain rfl : n = l := by omega
    obtain ⟨d, hd⟩ : ∃ d, d = n - c := ⟨_, rfl⟩
    have hcn := h.cl
    have hn255 := h.l255
    have hd1 : (n : Int) - (c : Int) = (d : Int) := by omega
    have hdn : d ≤ n := by omega
    obtain ⟨b, off, x, rfl, _, _, _⟩ := hI.at_ (j := 0) (by omega)
    have HS := hide (show Ints .i64 w B (some ⟨b, off, none⟩) d (iv (ws.take d)) by
      refine ⟨by rw [iv_len, List.length_take]; omega, fun _ => ?_⟩
      obtain ⟨b', off', e, hb', hcell⟩ := hI.2 (by omega)
      refine ⟨b', off', e, hb', fun j x hx => hcell j x ?_⟩
      rw [← iv_take, List.getElem?_take] at hx
      split at hx
      · exact hx
      · cases hx)
    have hdc : d ≤ cw := by omega
    clear hI hwl
    have HDD := hide hd
    have HDL := hide (show (ws.take d).length = d by rw [List.length_take]; omega)
    have HDM := hide (show (iv (ws.take d)).length = d by rw [iv_len]; exact HDL.out)
    clear hd hw hz
    go_enter Try.func46, Try.ntmps46
    go_wp2_with fail
    refine (specWErr p k g n c HC.out _ 1 1 _ _ _ HR.out rfl (box_size _ _ _) (by omega)).mono ?_
    rw [show lists [(some ⟨b, off, none⟩, n, cw, iv ws)] = [iv ws] from rfl, HE.out]
    rintro e w1 ⟨rfl, hb⟩
    have HX1 := hide (HXr.out.next hb)
    obtain ⟨c0, c1, c2, c3, c4⟩ := HX1.out.cells
    clear hb
    go_wp2_with fail
    refine (specOwnE (some ⟨b, off, none⟩) d cw B (ws.take d) _ (HS.out.below (HX1.out.2.mono hB)) (Nat.le_trans hB (Nat.le_of_lt HX1.out.lt)) (by omega)).mono ?_
    rintro e w2 ⟨A1, m1, rfl, hm1, ho, hb⟩
    rw [HDL.out] at ho ⊢
    have HX2 := hide (HX1.out.next hb)
    have HO := hide (newIK_of (c := 0) ho HX2.out.2 (Nat.le_of_lt HX1.out.lt))
    have HDE := hide (show ws.take d = ws.take (n - c) by rw [HDD.out])
    rw [HDE.out] at HO
    clear ho hb c0 c1 c2 c3 c4
    go_wp2_with fail
    go_ret2
    exact HO.out
  · intro A n cw B w hI hcap hB
    have HX := hide (CBox.start w p k g l c)
    have hn : n ≤ 1048576 := by rw [← hI.len]; exact hz
    have HR := hide (rws1b (c := cw) (.cells #[.int .i64 p, .int .i64 k, .int .i64 g, .int .i64 l, .int .i64 c] 27) 28 hI hB (by omega))
    have HXr := hide (HX.out.alloc (.cells #[.slice A n cw] 28))
    have HI := hide hI
    have hwl : ws.length = n := by rw [← iv_len]; exact hI.len
    obtain rfl : n = l := by omega
    obtain ⟨d, hd⟩ : ∃ d, d = n - c := ⟨_, rfl⟩
    have hcn := h.cl
    have hn255 := h.l255
    have hd1 : (n : Int) - (c : Int) = (d : Int) := by omega
    have hdn : d ≤ n := by omega
    obtain ⟨b, off, x, rfl, _, _, _⟩ := hI.at_ (j := 0) (by omega)
    have HS := hide (show Ints .i64 w B (some ⟨b, off, none⟩) d (iv (ws.take d)) by
      refine ⟨by rw [iv_len, List.length_take]; omega, fun _ => ?_⟩
      obtain ⟨b', off', e, hb', hcell⟩ := hI.2 (by omega)
      refine ⟨b', off', e, hb', fun j x hx => hcell j x ?_⟩
      rw [← iv_take, List.getElem?_take] at hx
      split at hx
      · exact hx
      · cases hx)
    have hdc : d ≤ cw := by omega
    clear hI hwl
    have HDD := hide hd
    have HDL := hide (show (ws.take d).length = d by rw [List.length_take]; omega)
    have HDM := hide (show (iv (ws.take d)).length = d by rw [iv_len]; exact HDL.out)
    clear hd hw hz
    go_enter Try.func23, Try.ntmps23
    go_wp2_with fail
    refine (implWErr p k g n c _ 1 1 _ _ _ HR.out rfl (box_size _ _ _) (by omega)).mono ?_
    rw [show lists [(some ⟨b, off, none⟩, n, cw, iv ws)] = [iv ws] from rfl, HE.out]
    rintro e w1 ⟨rfl, hb⟩
    have HX1 := hide (HXr.out.next hb)
    obtain ⟨c0, c1, c2, c3, c4⟩ := HX1.out.cells
    clear hb
    go_wp2_with fail
    refine (implMsgLen p k g n c h.l255 h.cl _).mono ?_
    rw [show n - c = d from HDD.out.symm]
    rintro e w3 ⟨rfl, hb⟩
    have HX3 := hide (HX1.out.next hb)
    clear hb c0 c1 c2 c3 c4
    obtain ⟨c0, c1, c2, c3, c4⟩ := HX3.out.cells
    go_wp2_with fail
    refine (implClone (some ⟨b, off, none⟩) d cw B (iv (ws.take d)) _ (HS.out.below (HX3.out.2.mono hB)) (Nat.le_trans hB (Nat.le_of_lt HX3.out.lt)) (by omega)).mono ?_
    rintro e w2 ⟨A1, m1, rfl, hm1, ho, hb⟩
    rw [HDM.out] at ho ⊢
    have HX2 := hide (HX3.out.next hb)
    have HO := hide (newIK_of (c := 0) ho HX2.out.2 (Nat.le_of_lt HX3.out.lt))
    have HDE := hide (show ws.take d = ws.take (n - c) by rw [HDD.out])
    rw [HDE.out] at HO
    clear ho hb c0 c1 c2 c3 c4
    go_wp2_with fail
    go_ret2
    exact HO.out

end Go.Proofs.Ytfbkmbjbjgfenaa
