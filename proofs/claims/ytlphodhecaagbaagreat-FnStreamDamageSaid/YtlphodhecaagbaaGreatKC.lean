/-
  The contract of the draw of a layout, a damaged stream and erasures: new lists; of the old memory only the source's own block changes.
  The contract of DrawStreamDamage: new lists; nothing of the old memory changes.
  The contract of hasInt of the laws: whether a list holds a number.
  Condition: as each statement says.
-/
import Derived.Test.YtlphodhecaagbaaGreatJW
import Derived.Test.YtlphodhecaagbaaGreatJU
import Derived.Test.YtlphodhecaagbaaGreatDSpec1
namespace Go.Proofs.YtlphodhecaagbaaGreat
open Go.RowKit
set_option linter.unusedVariables false
set_option linter.unusedSimpArgs false

/-- What such a draw holds: the source, the zero layout in the first block, the layout in block N. -/
structure Zst (w : World) (g Bc : Nat) (A : Option Addr) (n c : Nat) (code : List Int) (N : Nat) (p k γ D K C : Int) (wr : World) : Prop where
  src : Src wr g Bc A n c code
  zero : YRow wr w.heap.size 0 0 0 0 0 0
  lay : YRow wr N p k γ D K C
  grw : w.grownBy wr (some g)
  hN : w.heap.size < N
  hg : g < w.heap.size
section
variable {w wr wr' : World} {g Bc N n c : Nat} {A : Option Addr} {code : List Int} {p k γ D K C : Int}
theorem Zst.source (h : Zst w g Bc A n c code N p k γ D K C wr) (hs : Src wr' g Bc A n c code) (hg : wr.grownBy wr' (some g)) : Zst w g Bc A n c code N p k γ D K C wr' :=
  ⟨hs, row_grown h.zero hg (by have := h.hg; omega), row_grown h.lay hg (by have := h.hg; have := h.hN; omega), grown_trans h.grw hg, h.hN, h.hg⟩
theorem Zst.own (h : Zst w g Bc A n c code N p k γ D K C wr) {row : Option Nat} (hg : wr.grownBy wr' row) (hr : ∀ b, row = some b → N < b) : Zst w g Bc A n c code N p k γ D K C wr' :=
  ⟨h.src.still hg (fun r hr' => by have := hr r hr'; have := h.hg; have := h.hN; omega), row_grownN h.zero hg (fun e => by have := hr _ e; have := h.hN; omega), row_grownN h.lay hg (fun e => by have := hr _ e; omega),
   ⟨hg.os.trans h.grw.os, hg.tape.trans h.grw.tape, hg.output.trans h.grw.output, Nat.le_trans h.grw.size hg.size, fun i hi hne => (hg.block i (Nat.lt_of_lt_of_le hi h.grw.size) (fun e => by have := hr _ e.symm; have := h.hN; omega)).trans (h.grw.block i hi hne)⟩, h.hN, h.hg⟩
theorem Zst.next (h : Zst w g Bc A n c code N p k γ D K C wr) (hb : Below wr.heap.size wr wr') : Zst w g Bc A n c code N p k γ D K C wr' :=
  h.own (row := none) ⟨hb.os, hb.tape, hb.output, hb.size, fun i hi _ => hb.block i hi⟩ (fun b e => by cases e)
theorem Zst.alloc (h : Zst w g Bc A n c code N p k γ D K C wr) (o : Obj) : Zst w g Bc A n c code N p k γ D K C (wr.alloc o) := h.next ((Below.refl _ _).alloc (Nat.le_refl _) o)
theorem Zst.drew (h : Zst w g Bc A n c code N p k γ D K C wr) : Zst w g Bc A n c code N p k γ D K C wr.drew := ⟨h.src, h.zero, h.lay, grown_drew h.grw, h.hN, h.hg⟩
theorem Zst.lt (h : Zst w g Bc A n c code N p k γ D K C wr) : N < wr.heap.size := (Array.getElem?_eq_some_iff.1 h.lay).1
end
/-- What a draw of a layout and two lists leaves. -/
def DrawnYSS (g Bc : Nat) (A : Option Addr) (n c : Nat) (code : List Int) (w : World) (x : Ending) (w' : World) : Prop :=
  ∃ (p k γ D K C : Int) (zs es : List Int) (A1 A2 : Option Addr) (c1 c2 : Nat), x = .returned (.tuple #[.agg #[.int .i64 p, .int .i64 k, .int .i64 γ, .int .i64 D, .int .i64 K, .int .i64 C], .slice A1 zs.length c1, .slice A2 es.length c2]) ∧ 0 ≤ D ∧ D ≤ 3000 ∧ 0 ≤ K ∧ K ≤ 3000 ∧ 0 ≤ C ∧ C ≤ 4000 ∧
    zs.length ≤ 2001 ∧ es.length ≤ 2001 ∧ zs.length ≤ c1 ∧ es.length ≤ c2 ∧ Own w' w.heap.size 2 .i64 (.slice A1 zs.length c1) zs ∧ Own w' w.heap.size 2 .i64 (.slice A2 es.length c2) es ∧ Src w' g Bc A n c code ∧ w.grownBy w' (some g)
theorem own_cap {w : World} {base : Nat} {A : Option Addr} {n c : Nat} {zs : List Int} (h : Own w base 2 .i64 (.slice A n c) zs) : zs.length ≤ c := by
  obtain ⟨A1, c1, he, hc⟩ := h.form
  simp only [Value.slice.injEq] at he
  omega
def ZdRel (w : World) (g Bc : Nat) (A : Option Addr) (n c : Nat) (code : List Int) (N : Nat) (p k γ D K C : Int) (gS cg Nn : Nat) (at' cnt : Value) (wr : World) : Prop :=
  ∃ (a j : Nat) (zs : List Int), at' = .int .i64 a ∧ cnt = .int .i64 j ∧ j ≤ 2000 ∧ a + 2 * j ≤ 6000 ∧ zs.length = Nn ∧ Own wr (N + 1) 2 .i64 (.slice (some ⟨gS, 0, none⟩) Nn cg) zs ∧ Zst w g Bc A n c code N p k γ D K C wr
def ZeRel (w : World) (g Bc : Nat) (A : Option Addr) (n c : Nat) (code : List Int) (N : Nat) (p k γ D K C : Int) (gS cg Nn Be : Nat) (v i : Value) (wr : World) : Prop :=
  ∃ (j : Nat) (zs es : List Int), i = .int .i64 j ∧ j ≤ Nn ∧ Be ≤ wr.heap.size ∧ es.length ≤ j ∧ zs.length = Nn ∧ Own wr (N + 1) 2 .i64 (.slice (some ⟨gS, 0, none⟩) Nn cg) zs ∧ Own wr Be 2 .i64 v es ∧ Zst w g Bc A n c code N p k γ D K C wr

set_option maxRecDepth 100000 in
set_option maxHeartbeats 8000000 in
theorem drawStream (g Bc : Nat) (A : Option Addr) (n c : Nat) (code : List Int) (w : World) (hS : Src w g Bc A n c code) :
    Calls Tryz.prog 44 #[.pointer (some ⟨g, 0, none⟩)] w (DrawnYSS g Bc A n c code w) := by
  have hgl := hS.lt
  have HS := hide (hS.still (World.grownBy_alloc w (.cells #[.int .i64 0, .int .i64 0, .int .i64 0, .int .i64 0, .int .i64 0, .int .i64 0] 27) none) (by simp))
  have HZ := hide (show YRow (w.alloc (.cells #[.int .i64 0, .int .i64 0, .int .i64 0, .int .i64 0, .int .i64 0, .int .i64 0] 27)) w.heap.size 0 0 0 0 0 0 from heap_alloc_new w _)
  have hw0 : (w.alloc (.cells #[.int .i64 0, .int .i64 0, .int .i64 0, .int .i64 0, .int .i64 0, .int .i64 0] 27)).heap.size = w.heap.size + 1 := alloc_size _ _
  have HW0 := hide hw0
  clear hS hw0
  go_enter Tryz.func44, Tryz.ntmps44
  go_wp2_with fail
  refine (drawLayAny g Bc A n c code _ HS.out).mono ?_
  rintro e w2 ⟨p, k, γ, D, K, C, rfl, hD0, hD1, hK0, hK1, hC0, hC1, hs, hg⟩
  have hz2 := row_grown HZ.out hg (show g ≠ w.heap.size by omega)
  have hwl2 : w.heap.size < w2.heap.size := (Array.getElem?_eq_some_iff.1 hz2).1
  have HD2 := hide (show Zst w g Bc A n c code w2.heap.size p k γ D K C (w2.alloc (.cells #[.int .i64 p, .int .i64 k, .int .i64 γ, .int .i64 D, .int .i64 K, .int .i64 C] 27)) from
    ⟨hs.still (World.grownBy_alloc w2 _ none) (by simp), row_old hz2 _, heap_alloc_new w2 _, grown_trans (grown_trans (World.grownBy_alloc w (.cells #[.int .i64 0, .int .i64 0, .int .i64 0, .int .i64 0, .int .i64 0, .int .i64 0] 27) (some g)) hg) (World.grownBy_alloc w2 (.cells #[.int .i64 p, .int .i64 k, .int .i64 γ, .int .i64 D, .int .i64 K, .int .i64 C] 27) (some g)), hwl2, hgl⟩)
  have hDb : -9223372036854775808 ≤ D ∧ D ≤ 9223372036854775807 := by omega
  have hCb : -9223372036854775808 ≤ C ∧ C ≤ 9223372036854775807 := by omega
  have hwN : (w2.alloc (.cells #[.int .i64 p, .int .i64 k, .int .i64 γ, .int .i64 D, .int .i64 K, .int .i64 C] 27)).heap.size = w2.heap.size + 1 := alloc_size _ _
  have HWN := hide hwN
  clear hs hg HZ HS hz2 hwN HW0
  go_wp2_with fail
  generalize w2.alloc (.cells #[.int .i64 p, .int .i64 k, .int .i64 γ, .int .i64 D, .int .i64 K, .int .i64 C] 27) = ws at HD2 HWN ⊢
  generalize w2.heap.size = N at hwl2 HD2 HWN ⊢
  obtain ⟨d0, d1, d2, d3, d4, d5, -, -, -, -, -, -⟩ := row6c HD2.out.lay
  go_wp2_with fail
  refine (drawData p k γ D K C g _ A n c code _ HD2.out.src).mono ?_
  rintro e w3 ⟨z3, A3, c3, rfl, hl3, ho, hs, hg⟩
  have HD3 := hide (HD2.out.source hs hg)
  have HO3 := hide (show Own w3 (N + 1) 2 .i64 (.slice A3 z3.length c3) z3 by rw [← HWN.out]; exact ho)
  have hcap3 := own_cap HO3.out
  clear ho hs hg d0 d1 d2 d3 d4 d5
  obtain ⟨d0, d1, d2, d3, d4, d5, -, -, -, -, -, -⟩ := row6c HD3.out.lay
  obtain ⟨r, cd, hr, hS, hM, hC⟩ := es_key p k γ D K C z3 (by omega) hDb hCb
  have HSE := hide hS
  have HC := hide hC
  clear hS hM hC
  go_wp2_with fail
  refine (HSE.out A3 _ c3 _ _ (Own.ints HO3.out) hcap3 (Nat.le_refl _)).mono ?_
  rintro e w4 ⟨Ag, cg, rfl, hcg, hog, hb⟩
  have HD4 := hide (HD3.out.next hb)
  have HO4 := hide (HO3.out.below hb (Nat.le_refl _))
  have HOG := hide (show Own w4 (N + 1) 2 .i64 (.slice Ag r.length cg) r from hog.low (base' := N + 1) HD3.out.lt)
  clear hog hb d0 d1 d2 d3 d4 d5 HO3
  obtain ⟨d0, d1, d2, d3, d4, d5, -, -, -, -, -, -⟩ := row6c HD4.out.lay
  rcases HC.out with hcd | ⟨hcd, R, γ', d, c', m, ds, hDe, hKe, hCe, hL, hze, hml, hre⟩
  · have e1 : (cd != 0) = true := by simpa using hcd
    clear hcd
    clear d0 d1 d2 d3 d4 d5
    obtain ⟨z0, z1, z2', z3', z4, z5, f0, f1, f2, f3, f4, f5⟩ := row6c HD4.out.zero
    obtain ⟨d0, d1, d2, d3, d4, d5, -, -, -, -, -, -⟩ := row6c HD4.out.lay
    have HZ9 := hide (row_set6 HD4.out.zero (.int .i64 p) (.int .i64 k) (.int .i64 γ) (.int .i64 D) (.int .i64 K) (.int .i64 C))
    have hgb9 : ∀ (x0 x1 x2 x3 x4 x5 : Value), w4.grownBy (set6 w4 w.heap.size x0 x1 x2 x3 x4 x5) (some w.heap.size) := fun x0 x1 x2 x3 x4 x5 => by
      unfold set6; exact grown_set (grown_set (grown_set (grown_set (grown_set (grown_set (World.grownBy.refl w4 (some w.heap.size)) 0 x0) 1 x1) 2 x2) 3 x3) 4 x4) 5 x5
    have HGB9 := hide (hgb9 (.int .i64 p) (.int .i64 k) (.int .i64 γ) (.int .i64 D) (.int .i64 K) (.int .i64 C))
    have HSR9 := hide (src_set6 HD4.out.src HD4.out.hg (.int .i64 p) (.int .i64 k) (.int .i64 γ) (.int .i64 D) (.int .i64 K) (.int .i64 C))
    have HGW9 := hide (grown_set6 HD4.out.grw w.heap.size (Nat.le_refl _) (.int .i64 p) (.int .i64 k) (.int .i64 γ) (.int .i64 D) (.int .i64 K) (.int .i64 C))
    have hfold : ((((((w4.setCell ⟨w.heap.size, 0, none⟩ (.int .i64 p)).setCell ⟨w.heap.size, 1, none⟩ (.int .i64 k)).setCell ⟨w.heap.size, 2, none⟩ (.int .i64 γ)).setCell ⟨w.heap.size, 3, none⟩ (.int .i64 D)).setCell ⟨w.heap.size, 4, none⟩ (.int .i64 K)).setCell ⟨w.heap.size, 5, none⟩ (.int .i64 C)) = set6 w4 w.heap.size (.int .i64 p) (.int .i64 k) (.int .i64 γ) (.int .i64 D) (.int .i64 K) (.int .i64 C) := rfl
    clear hgb9
    go_wp2_with fail
    generalize set6 w4 w.heap.size (.int .i64 p) (.int .i64 k) (.int .i64 γ) (.int .i64 D) (.int .i64 K) (.int .i64 C) = w9 at HZ9 HGB9 HSR9 HGW9 ⊢
    clear hfold z0 z1 z2' z3' z4 z5 f0 f1 f2 f3 f4 f5 d0 d1 d2 d3 d4 d5
    obtain ⟨y0, y1, y2, y3, y4, y5, -, -, -, -, -, -⟩ := row6c HZ9.out
    refine bodyPost_ret (v := .tuple #[.agg #[.int .i64 p, .int .i64 k, .int .i64 γ, .int .i64 D, .int .i64 K, .int .i64 C], .slice A3 z3.length c3, .slice none 0 0]) (by simp [results, Tryz.results44, go_sem, y0, y1, y2, y3, y4, y5]) rfl ?_
    exact ⟨p, k, γ, D, K, C, z3, [], A3, none, c3, 0, rfl, hD0, hD1, hK0, hK1, hC0, hC1, hl3, by simp, hcap3, Nat.le_refl _, Own.low (base' := w.heap.size) (HO4.out.grown HGB9.out (own_gap7 HO4.out (by omega))) (by omega), World.ownsRow_nil _ _ _ _, HSR9.out, HGW9.out⟩
  · subst hcd hDe hKe hCe hze hre
    have h1 := hL.c1; have h2 := hL.c16; have h4 := hL.tot; have h5 := hL.k1; have h6 := hL.d1500
    have hqb := hL.fld.kind.big
    have hq3 := R.three
    have HSIZ := hide (fun w' => specSize hL.fld.kind w')
    have hsl : (iv (strL d m c' (encB γ' d m c' ds))).length = d + m * c' := str_lenI γ' ds
    have hdz := hL.cd
    obtain ⟨gS, cS, hAg, hgS1, hgS2, _⟩ := HOG.out.some_ (by rw [hsl]; omega)
    obtain ⟨zs, hzs⟩ : ∃ zs, iv (strL d m c' (encB γ' d m c' ds)) = zs := ⟨_, rfl⟩
    rw [hzs] at HOG hsl hAg hcg hr ⊢
    obtain ⟨Nn, hNn⟩ : ∃ Nn, d + m * c' = Nn := ⟨_, rfl⟩
    rw [hNn] at hsl h4
    rw [hsl] at HOG hAg hcg hr ⊢
    simp only [Value.slice.injEq] at hAg
    obtain ⟨rfl, _, rfl⟩ := hAg
    have hN0 : 0 < Nn := by omega
    have HSL := hide hsl
    obtain ⟨hf, hhf⟩ : ∃ hf, c' / 2 = hf := ⟨_, rfl⟩
    have htd : ((c' : Nat) : Int).tdiv 2 = (hf : Int) := by rw [Int.tdiv_eq_ediv_of_nonneg (by omega)]; omega
    have hwd : IntKind.i64.wrap (hf : Int) = (hf : Int) := IntWalk.i64_in _ ⟨by omega, by omega⟩
    have hpl : m * hf ≤ 16 * 32 := Nat.mul_le_mul h2 (by omega)
    obtain ⟨pr, hpr⟩ : ∃ pr, m * hf = pr := ⟨_, rfl⟩
    rw [hpr] at hpl
    have hw1 : IntKind.i64.wrap ((m : Int) * (hf : Int)) = (pr : Int) := by
      have : (m : Int) * (hf : Int) = ((m * hf : Nat) : Int) := by simp
      rw [this, hpr]; exact IntWalk.i64_in _ ⟨by omega, by omega⟩
    have hw2 : IntKind.i64.wrap ((pr : Int) + 2) = (pr : Int) + 2 := IntWalk.i64_in _ ⟨by omega, by omega⟩
    have HBD := hide (And.intro (And.intro hD0 hD1) (And.intro (And.intro hK0 hK1) (And.intro hC0 hC1)))
    clear hzs hNn hsl hhf hpr hL hml hl3 hcap3 hr HC HSE HO4 hD0 hD1 hK0 hK1 hC0 hC1 hDb hCb hdz
    go_wp2_with fail
    refine (next_any g Bc A n c code (Nn : Int) _ HD4.out.src (by omega)).mono ?_
    rintro e w5 ⟨a, rfl, ha0, ha1, hs, hg⟩
    obtain ⟨a, rfl⟩ : ∃ a' : Nat, a = a' := ⟨a.toNat, by omega⟩
    have HD5 := hide (HD4.out.source hs hg)
    have HO5 := hide (HOG.out.grown hg (own_gap7 HOG.out (by omega)))
    clear hs hg d0 d1 d2 d3 d4 d5 HOG HD4
    obtain ⟨d0, d1, d2, d3, d4, d5, -, -, -, -, -, -⟩ := row6c HD5.out.lay
    go_wp2_with fail
    refine (next_any g Bc A n c code ((pr : Int) + 2) w5 HD5.out.src (by omega)).mono ?_
    rintro e w6 ⟨q, rfl, hq0, hq1, hs, hg⟩
    obtain ⟨q, rfl⟩ : ∃ q' : Nat, q = q' := ⟨q.toNat, by omega⟩
    have HD6 := hide (HD5.out.source hs hg)
    have HO6 := hide (HO5.out.grown hg (own_gap7 HO5.out (by omega)))
    clear hs hg d0 d1 d2 d3 d4 d5 HO5 HD5 htd hwd hw1 hw2
    go_wp2_with fail
    go_loopw [9, 10] (fun a q wr => ZdRel w g Bc A n c code N p k γ d c' m gS cg Nn a q wr) (fun _ q _ => (intOf q).toNat)
    case atStart => exact ⟨a, q, zs, rfl, rfl, by omega, by omega, HSL.out, HO6.out, HD6.out⟩
    case round =>
      clear HO6 HD6 HSL
      obtain ⟨a, j, zs, rfl, rfl, hj, haj, hzl, hO, hD⟩ := hrel
      have HO := hide hO
      have HD := hide hD
      have HZL := hide hzl
      clear hO hD hzl
      obtain ⟨d0, d1, d2, d3, d4, d5, -, -, -, -, -, -⟩ := row6c HD.out.lay
      by_cases hlt : 0 < j
      · have htj : (0 : Int) < (j : Int) := by omega
        obtain ⟨x, hx⟩ : ∃ x, a % Nn = x := ⟨_, rfl⟩
        have hxN : x < Nn := by rw [← hx]; exact Nat.mod_lt _ hN0
        have hxN2 : (x : Int) < (Nn : Int) := by omega
        have htm : ((a : Nat) : Int).tmod ((Nn : Nat) : Int) = (x : Int) := by
          rw [Int.tmod_eq_emod_of_nonneg (by omega)]; omega
        have hne : Nn ≠ 0 := by omega
        have hne2 : ((Nn : Nat) : Int) ≠ 0 := by omega
        clear hx
        go_wp2_with fail
        refine tail_begin (fun w' => w'.cell? ⟨N, 0, none⟩ = some (.int .i64 p) ∧ w'.cell? ⟨N, 1, none⟩ = some (.int .i64 k) ∧ w'.cell? ⟨N, 2, none⟩ = some (.int .i64 γ)) 11 (by kernel_rfl) ⟨d0, d1, d2⟩ (fun hS' => ?_)
        clear d0 d1 d2 d3 d4 d5
        refine tail_take 0 rfl (by kernel_rfl) (by kernel_rfl) (by kernel_rfl) (by kernel_rfl) (fun _ _ _ h => h) (by rfl) (v := ?_) ?_ (by assumption) ?_
        rotate_left 1
        · intro w' hS'; obtain ⟨q0, q1, q2⟩ := hS'; go_simp; try with_reducible rfl
        try simp only [Act.put, List.setIfInBounds_toArray, List.set_cons_zero, List.set_cons_succ]
        refine tail_take 1 rfl (by kernel_rfl) (by kernel_rfl) (by kernel_rfl) (by kernel_rfl) (fun _ _ _ h => h) (by rfl) (v := ?_) ?_ (by assumption) ?_
        rotate_left 1
        · intro w' hS'; obtain ⟨q0, q1, q2⟩ := hS'; go_simp; try with_reducible rfl
        try simp only [Act.put, List.setIfInBounds_toArray, List.set_cons_zero, List.set_cons_succ]
        refine tail_take 2 rfl (by kernel_rfl) (by kernel_rfl) (by kernel_rfl) (by kernel_rfl) (fun _ _ _ h => h) (by rfl) (v := ?_) ?_ (by assumption) ?_
        rotate_left 1
        · intro w' hS'; obtain ⟨q0, q1, q2⟩ := hS'; go_simp; try with_reducible rfl
        try simp only [Act.put, List.setIfInBounds_toArray, List.set_cons_zero, List.set_cons_succ]
        refine tail_take 3 rfl (by kernel_rfl) (by kernel_rfl) (by kernel_rfl) (by kernel_rfl) (fun _ _ _ h => h) (by rfl) (v := ?_) ?_ (by assumption) ?_
        rotate_left 1
        · intro w' hS'; obtain ⟨q0, q1, q2⟩ := hS'; go_simp; try with_reducible rfl
        try simp only [Act.put, List.setIfInBounds_toArray, List.set_cons_zero, List.set_cons_succ]
        refine tail_take 4 rfl (by kernel_rfl) (by kernel_rfl) (by kernel_rfl) (by kernel_rfl) (fun _ _ _ h => h) (by rfl) (v := ?_) ?_ (by assumption) ?_
        rotate_left 1
        · intro w' hS'; obtain ⟨q0, q1, q2⟩ := hS'; go_simp; try with_reducible rfl
        try simp only [Act.put, List.setIfInBounds_toArray, List.set_cons_zero, List.set_cons_succ]
        refine tail_take 5 rfl (by kernel_rfl) (by kernel_rfl) (by kernel_rfl) (by kernel_rfl) (fun _ _ _ h => h) (by rfl) (v := ?_) ?_ (by assumption) ?_
        rotate_left 1
        · intro w' hS'; obtain ⟨q0, q1, q2⟩ := hS'; go_simp; try with_reducible rfl
        try simp only [Act.put, List.setIfInBounds_toArray, List.set_cons_zero, List.set_cons_succ]
        refine tail_take 6 rfl (by kernel_rfl) (by kernel_rfl) (by kernel_rfl) (by kernel_rfl) (fun _ _ _ h => h) (by rfl) (v := ?_) ?_ (by assumption) ?_
        rotate_left 1
        · intro w' hS'; obtain ⟨q0, q1, q2⟩ := hS'; go_simp; try with_reducible rfl
        try simp only [Act.put, List.setIfInBounds_toArray, List.set_cons_zero, List.set_cons_succ]
        refine tail_take 7 rfl (by kernel_rfl) (by kernel_rfl) (by kernel_rfl) (by kernel_rfl) (fun _ _ _ h => h) (by rfl) (v := ?_) ?_ (by assumption) ?_
        rotate_left 1
        · intro w' hS'; obtain ⟨q0, q1, q2⟩ := hS'; go_simp; try with_reducible rfl
        try simp only [Act.put, List.setIfInBounds_toArray, List.set_cons_zero, List.set_cons_succ]
        refine tail_call 8 rfl (by kernel_rfl) rfl (fun K' hK => ?_)
        go_simp
        obtain ⟨q0, q1, q2⟩ := hS'; go_at_call 40; refine (HSIZ.out _).mono ?_; rintro e w7 ⟨rfl, hb⟩; have HD7 := hide (HD.out.drew.next hb); have HO7 := hide (HO.out.drew.below hb (Nat.le_refl _)); clear hb
        refine hK.out _ _ (by (try dsimp only); exact ⟨(row6c HD7.out.lay).1, (row6c HD7.out.lay).2.1, (row6c HD7.out.lay).2.2.1⟩) (fun hS' => ?_)
        clear hK K'
        try simp only [Act.put, List.setIfInBounds_toArray, List.set_cons_zero, List.set_cons_succ]
        refine tail_call 9 rfl (by kernel_rfl) rfl (fun K' hK => ?_)
        go_simp
        obtain ⟨q0, q1, q2⟩ := hS'; go_at_call 45; refine (next_any g Bc A n c code (R.q : Int) _ HD7.out.src (by omega)).mono ?_; rintro e w8 ⟨y, rfl, hy0, hy1, hs, hg⟩; have HD8 := hide (HD7.out.source hs hg); have HO8 := hide (HO7.out.grown hg (own_gap7 HO7.out (by omega))); clear hs hg
        refine hK.out _ _ (by (try dsimp only); exact ⟨(row6c HD8.out.lay).1, (row6c HD8.out.lay).2.1, (row6c HD8.out.lay).2.2.1⟩) (fun hS' => ?_)
        clear hK K'
        try simp only [Act.put, List.setIfInBounds_toArray, List.set_cons_zero, List.set_cons_succ]
        refine tail_take 10 rfl (by kernel_rfl) (by kernel_rfl) (by kernel_rfl) (by kernel_rfl) (fun _ _ _ h => h) (by rfl) (v := ?_) ?_ (by assumption) ?_
        rotate_left 1
        · intro w' hS'; obtain ⟨q0, q1, q2⟩ := hS'; go_simp; try with_reducible rfl
        try simp only [Act.put, List.setIfInBounds_toArray, List.set_cons_zero, List.set_cons_succ]
        have hfx := HO8.out.frozenAt x
        obtain ⟨u, hcx⟩ : ∃ u : Int, w8.cell? ⟨gS, x, none⟩ = some (.int .i64 u) := ⟨_, HO8.out.cellAt (j := x) (List.getElem?_eq_getElem (by rw [HZL.out]; exact hxN))⟩
        have hst := HO8.out.stored x y
        have HO9 := hide hst.1
        have HD9 := hide (HD8.out.own hst.2 (fun b hb => by injection hb with hb; omega))
        have HZL9 := hide (show (zs.set x y).length = Nn by rw [List.length_set]; exact HZL.out)
        clear hst
        refine tail_last 11 rfl (by kernel_rfl) (by kernel_rfl) rfl rfl (fun K' hK => ?_)
        go_simp
        refine hK.out _ _ ?_
        clear hK K'
        try simp only [Act.put, List.setIfInBounds_toArray, List.set_cons_zero, List.set_cons_succ]
        clear hS' hfx hcx htm hne hne2
        go_wp2_with fail
        refine (next_any g Bc A n c code 6 _ HD9.out.src (by omega)).mono ?_
        rintro e w10 ⟨y6, rfl, hy0, hy1, hs, hg⟩
        obtain ⟨y6, rfl⟩ : ∃ q' : Nat, y6 = q' := ⟨y6.toNat, by omega⟩
        have HDa := hide (HD9.out.source hs hg)
        have HOa := hide (HO9.out.grown hg (own_gap7 HO9.out (by omega)))
        obtain ⟨e5, he5⟩ : ∃ e5, y6 / 5 = e5 := ⟨_, rfl⟩
        have he51 : e5 ≤ 1 := by omega
        have htd : ((y6 : Nat) : Int).tdiv 5 = (e5 : Int) := by rw [Int.tdiv_eq_ediv_of_nonneg (by omega)]; omega
        have hwd : IntKind.i64.wrap (e5 : Int) = (e5 : Int) := IntWalk.i64_in _ ⟨by omega, by omega⟩
        have hwa : IntKind.i64.wrap ((a : Int) + 1) = (a : Int) + 1 := IntWalk.i64_in _ ⟨by omega, by omega⟩
        have hwb : IntKind.i64.wrap ((a : Int) + 1 + (e5 : Int)) = (a : Int) + 1 + (e5 : Int) := IntWalk.i64_in _ ⟨by omega, by omega⟩
        have hwj : IntKind.i64.wrap ((j : Int) - 1) = (j : Int) - 1 := IntWalk.i64_in _ ⟨by omega, by omega⟩
        clear hs hg he5
        go_wp2_with fail
        go_roundw
        case rel => exact ⟨a + 1 + e5, j - 1, _, by go_num, by go_num, by omega, by omega, HZL9.out, HOa.out, HDa.out⟩
        case measure => simp [intOf]; omega
      · have htj : ¬ (0 : Int) < (j : Int) := by omega
        have hwB := HD.out.lt
        have HOb := hide (Own.lit0 wr 2 .i64)
        have HDb := hide (HD.out.alloc (.cells #[] 2))
        have HOz := hide (HO.out.below ((Below.refl _ wr).alloc (Nat.le_refl _) (.cells #[] 2)) (Nat.le_refl _))
        have hgB : gS < wr.heap.size := (HO.out.lt rfl).2
        clear d0 d1 d2 d3 d4 d5
        go_wp2_with fail
        have hwb0 : (wr.alloc (.cells #[] 2)).heap.size = wr.heap.size + 1 := alloc_size _ _
        generalize wr.alloc (.cells #[] 2) = wb at HOb HDb HOz hwb0 ⊢
        generalize wr.heap.size = Be at HOb hwB hgB hwb0 ⊢
        go_loopw [11, 12] (fun v i wr => ZeRel w g Bc A n c code N p k γ d c' m gS cg Nn Be v i wr) (fun _ i _ => Nn - (intOf i).toNat)
        case atStart => exact ⟨0, zs, [], rfl, Nat.zero_le _, by omega, Nat.le_refl _, HZL.out, HOz.out, HOb.out, HDb.out⟩
        case round =>
          clear HOb HDb HOz HO HD HZL
          obtain ⟨v, hvv⟩ : ∃ v : Value, v = u11 := ⟨_, rfl⟩
          subst hvv
          obtain ⟨j, zs, es, rfl, hj, hBe, hes, hzl, hO, hE, hD⟩ := hrel
          have HO := hide hO
          have HE := hide hE
          have HD := hide hD
          have HZL := hide hzl
          clear hO hE hD hzl
          have HVG := hide (own_gap7 HE.out (B := g) (by omega))
          have HVS := hide (show (Value.slice (some ⟨gS, 0, none⟩) Nn cg).ownBlock = none ∨ (Value.slice (some ⟨gS, 0, none⟩) Nn cg).ownBlock ≠ v.ownBlock from .inr fun e => by
            have h2 : v.ownBlock = some gS := e.symm
            have := (HE.out.lt h2).1; omega)
          have HVN := hide (show ∀ b, v.ownBlock = some b → N < b from fun b hb => by have := (HE.out.lt hb).1; omega)
          by_cases hlt : j < Nn
          · have htj : (j : Int) < (Nn : Int) := by omega
            go_wp2_with fail
            refine (next_any g Bc A n c code 16 _ HD.out.src (by omega)).mono ?_
            rintro e w3 ⟨y, rfl, hy0, hy1, hs, hg⟩
            have HD3 := hide (HD.out.source hs hg)
            have HO3 := hide (HO.out.grown hg (own_gap7 HO.out (by omega)))
            have HE3 := hide (HE.out.grown hg HVG.out)
            have hsz3 : Be ≤ w3.heap.size := Nat.le_trans hBe hg.size
            clear hs hg hy1
            by_cases hy : y = 0
            · subst hy
              go_wp2_with (
                at_builtin
                refine wpList_app1 w3 rfl _ _ _ rfl elem64 Be v _ rfl HE3.out (j : Int) rfl (by omega) hsz3 ?_
                intro v4 w4 hown hgrow
                have HE4 := hide hown
                have hgr4 := hide hgrow.size
                have HO4 := hide (HO3.out.grown hgrow HVS.out)
                have HD4 := hide (HD3.out.own hgrow HVN.out)
                clear hown hgrow)
              go_roundw
              case rel => exact ⟨j + 1, zs, es ++ [(j : Int)], by go_num, by omega, Nat.le_trans hsz3 hgr4.out, by simp; omega, HZL.out, HO4.out, HE4.out, HD4.out⟩
              case measure => simp [intOf]; omega
            · go_wp2_with fail
              go_roundw
              case rel => exact ⟨j + 1, zs, es, by go_num, by omega, hsz3, by omega, HZL.out, HO3.out, HE3.out, HD3.out⟩
              case measure => simp [intOf]; omega
          · have htj : ¬ (j : Int) < (Nn : Int) := by omega
            go_wp2_with fail
            refine (next_any g Bc A n c code 30 _ HD.out.src (by omega)).mono ?_
            rintro e w3 ⟨y, rfl, hy0, hy1, hs, hg⟩
            have HD3 := hide (HD.out.source hs hg)
            have HO3 := hide (HO.out.grown hg (own_gap7 HO.out (by omega)))
            have HE3 := hide (HE.out.grown hg HVG.out)
            have hsz3 : Be ≤ w3.heap.size := Nat.le_trans hBe hg.size
            have hsz4 : N + 1 ≤ w3.heap.size := by omega
            obtain ⟨A2, c2, hve, hc2⟩ := HE3.out.form
            subst hve
            clear hs hg hy1
            by_cases hy : y = 0
            · subst hy
              go_wp2_with (
                at_builtin
                refine wpList_app1 w3 rfl _ _ _ rfl elem64 Be (.slice A2 es.length c2) _ rfl HE3.out ((Nn : Nat) : Int) rfl (by omega) hsz3 ?_
                intro v4 w4 hown hgrow
                have HO4 := hide (HO3.out.grown hgrow HVS.out)
                have HD4 := hide (HD3.out.own hgrow HVN.out)
                obtain ⟨e2, he2⟩ : ∃ l, es ++ [((Nn : Nat) : Int)] = l := ⟨_, rfl⟩
                rw [he2] at hown
                have hl2 : e2.length ≤ 2001 := by rw [← he2]; simp; omega
                obtain ⟨A4, c4, hv4, hc4⟩ := hown.form
                subst hv4
                have HE4 := hide hown
                clear hown hgrow he2
                obtain ⟨z0, z1, z2', z3', z4, z5, f0, f1, f2, f3, f4, f5⟩ := row6c HD4.out.zero
                obtain ⟨d0, d1, d2, d3, d4, d5, -, -, -, -, -, -⟩ := row6c HD4.out.lay
                have HZ9 := hide (row_set6 HD4.out.zero (.int .i64 p) (.int .i64 k) (.int .i64 γ) (.int .i64 ((d : Nat) : Int)) (.int .i64 ((c' : Nat) : Int)) (.int .i64 ((m : Nat) : Int)))
                have hgb9 : ∀ (x0 x1 x2 x3 x4 x5 : Value), w4.grownBy (set6 w4 w.heap.size x0 x1 x2 x3 x4 x5) (some w.heap.size) := fun x0 x1 x2 x3 x4 x5 => by
                  unfold set6; exact grown_set (grown_set (grown_set (grown_set (grown_set (grown_set (World.grownBy.refl w4 (some w.heap.size)) 0 x0) 1 x1) 2 x2) 3 x3) 4 x4) 5 x5
                have HGB9 := hide (hgb9 (.int .i64 p) (.int .i64 k) (.int .i64 γ) (.int .i64 ((d : Nat) : Int)) (.int .i64 ((c' : Nat) : Int)) (.int .i64 ((m : Nat) : Int)))
                have HSR9 := hide (src_set6 HD4.out.src HD4.out.hg (.int .i64 p) (.int .i64 k) (.int .i64 γ) (.int .i64 ((d : Nat) : Int)) (.int .i64 ((c' : Nat) : Int)) (.int .i64 ((m : Nat) : Int)))
                have HGW9 := hide (grown_set6 HD4.out.grw w.heap.size (Nat.le_refl _) (.int .i64 p) (.int .i64 k) (.int .i64 γ) (.int .i64 ((d : Nat) : Int)) (.int .i64 ((c' : Nat) : Int)) (.int .i64 ((m : Nat) : Int)))
                have hfold : ((((((w4.setCell ⟨w.heap.size, 0, none⟩ (.int .i64 p)).setCell ⟨w.heap.size, 1, none⟩ (.int .i64 k)).setCell ⟨w.heap.size, 2, none⟩ (.int .i64 γ)).setCell ⟨w.heap.size, 3, none⟩ (.int .i64 ((d : Nat) : Int))).setCell ⟨w.heap.size, 4, none⟩ (.int .i64 ((c' : Nat) : Int))).setCell ⟨w.heap.size, 5, none⟩ (.int .i64 ((m : Nat) : Int))) = set6 w4 w.heap.size (.int .i64 p) (.int .i64 k) (.int .i64 γ) (.int .i64 ((d : Nat) : Int)) (.int .i64 ((c' : Nat) : Int)) (.int .i64 ((m : Nat) : Int)) := rfl
                clear hgb9)
              generalize set6 w4 w.heap.size (.int .i64 p) (.int .i64 k) (.int .i64 γ) (.int .i64 ((d : Nat) : Int)) (.int .i64 ((c' : Nat) : Int)) (.int .i64 ((m : Nat) : Int)) = w9 at HZ9 HGB9 HSR9 HGW9 ⊢
              clear hfold z0 z1 z2' z3' z4 z5 f0 f1 f2 f3 f4 f5 d0 d1 d2 d3 d4 d5
              obtain ⟨y0, y1, y2, y3, y4, y5, -, -, -, -, -, -⟩ := row6c HZ9.out
              refine bodyPost_ret (v := .tuple #[.agg #[.int .i64 p, .int .i64 k, .int .i64 γ, .int .i64 ((d : Nat) : Int), .int .i64 ((c' : Nat) : Int), .int .i64 ((m : Nat) : Int)], .slice (some ⟨gS, 0, none⟩) Nn cg, .slice A4 e2.length c4]) (by simp [results, Tryz.results44, go_sem, y0, y1, y2, y3, y4, y5]) rfl ?_
              exact ⟨p, k, γ, d, c', m, zs, e2, some ⟨gS, 0, none⟩, A4, cg, c4, by rw [HZL.out], HBD.out.1.1, HBD.out.1.2, HBD.out.2.1.1, HBD.out.2.1.2, HBD.out.2.2.1, HBD.out.2.2.2, by rw [HZL.out]; omega, hl2, by rw [HZL.out]; exact hcg, hc4, Own.low (base' := w.heap.size) (show Own w9 (N + 1) 2 .i64 (.slice (some ⟨gS, 0, none⟩) zs.length cg) zs by rw [HZL.out]; exact HO4.out.grown HGB9.out (own_gap7 HO4.out (by omega))) (by omega), Own.low (base' := w.heap.size) (HE4.out.grown HGB9.out (own_gap7 HE4.out (by omega))) (by omega), HSR9.out, HGW9.out⟩
            · by_cases hy' : y = 1
              · subst hy'
                go_wp2_with (
                  at_builtin
                  refine wpList_app1 w3 rfl _ _ _ rfl elem64 (N + 1) (.slice (some ⟨gS, 0, none⟩) Nn cg) _ rfl HO3.out 0 rfl (by rw [HZL.out]; omega) hsz4 ?_
                  intro v4 w4 hown hgrow
                  have HE4 := hide (HE3.out.grown hgrow (own_gap7 HE3.out (B := gS) (by omega)))
                  have HD4 := hide (HD3.out.own hgrow (fun b hb => by have h2 : gS = b := Option.some.inj hb; omega))
                  obtain ⟨z2, he2⟩ : ∃ l, zs ++ [(0 : Int)] = l := ⟨_, rfl⟩
                  rw [he2] at hown
                  have hl2 : z2.length ≤ 2001 := by rw [← he2]; simp; have := HZL.out; omega
                  obtain ⟨A4, c4, hv4, hc4⟩ := hown.form
                  subst hv4
                  have HO4 := hide hown
                  clear hown hgrow he2
                  obtain ⟨z0, z1, z2', z3', z4, z5, f0, f1, f2, f3, f4, f5⟩ := row6c HD4.out.zero
                  obtain ⟨d0, d1, d2, d3, d4, d5, -, -, -, -, -, -⟩ := row6c HD4.out.lay
                  have HZ9 := hide (row_set6 HD4.out.zero (.int .i64 p) (.int .i64 k) (.int .i64 γ) (.int .i64 ((d : Nat) : Int)) (.int .i64 ((c' : Nat) : Int)) (.int .i64 ((m : Nat) : Int)))
                  have hgb9 : ∀ (x0 x1 x2 x3 x4 x5 : Value), w4.grownBy (set6 w4 w.heap.size x0 x1 x2 x3 x4 x5) (some w.heap.size) := fun x0 x1 x2 x3 x4 x5 => by
                    unfold set6; exact grown_set (grown_set (grown_set (grown_set (grown_set (grown_set (World.grownBy.refl w4 (some w.heap.size)) 0 x0) 1 x1) 2 x2) 3 x3) 4 x4) 5 x5
                  have HGB9 := hide (hgb9 (.int .i64 p) (.int .i64 k) (.int .i64 γ) (.int .i64 ((d : Nat) : Int)) (.int .i64 ((c' : Nat) : Int)) (.int .i64 ((m : Nat) : Int)))
                  have HSR9 := hide (src_set6 HD4.out.src HD4.out.hg (.int .i64 p) (.int .i64 k) (.int .i64 γ) (.int .i64 ((d : Nat) : Int)) (.int .i64 ((c' : Nat) : Int)) (.int .i64 ((m : Nat) : Int)))
                  have HGW9 := hide (grown_set6 HD4.out.grw w.heap.size (Nat.le_refl _) (.int .i64 p) (.int .i64 k) (.int .i64 γ) (.int .i64 ((d : Nat) : Int)) (.int .i64 ((c' : Nat) : Int)) (.int .i64 ((m : Nat) : Int)))
                  have hfold : ((((((w4.setCell ⟨w.heap.size, 0, none⟩ (.int .i64 p)).setCell ⟨w.heap.size, 1, none⟩ (.int .i64 k)).setCell ⟨w.heap.size, 2, none⟩ (.int .i64 γ)).setCell ⟨w.heap.size, 3, none⟩ (.int .i64 ((d : Nat) : Int))).setCell ⟨w.heap.size, 4, none⟩ (.int .i64 ((c' : Nat) : Int))).setCell ⟨w.heap.size, 5, none⟩ (.int .i64 ((m : Nat) : Int))) = set6 w4 w.heap.size (.int .i64 p) (.int .i64 k) (.int .i64 γ) (.int .i64 ((d : Nat) : Int)) (.int .i64 ((c' : Nat) : Int)) (.int .i64 ((m : Nat) : Int)) := rfl
                  clear hgb9)
                generalize set6 w4 w.heap.size (.int .i64 p) (.int .i64 k) (.int .i64 γ) (.int .i64 ((d : Nat) : Int)) (.int .i64 ((c' : Nat) : Int)) (.int .i64 ((m : Nat) : Int)) = w9 at HZ9 HGB9 HSR9 HGW9 ⊢
                clear hfold z0 z1 z2' z3' z4 z5 f0 f1 f2 f3 f4 f5 d0 d1 d2 d3 d4 d5
                obtain ⟨y0, y1, y2, y3, y4, y5, -, -, -, -, -, -⟩ := row6c HZ9.out
                refine bodyPost_ret (v := .tuple #[.agg #[.int .i64 p, .int .i64 k, .int .i64 γ, .int .i64 ((d : Nat) : Int), .int .i64 ((c' : Nat) : Int), .int .i64 ((m : Nat) : Int)], .slice A4 z2.length c4, .slice A2 es.length c2]) (by simp [results, Tryz.results44, go_sem, y0, y1, y2, y3, y4, y5]) rfl ?_
                exact ⟨p, k, γ, d, c', m, z2, es, A4, A2, c4, c2, rfl, HBD.out.1.1, HBD.out.1.2, HBD.out.2.1.1, HBD.out.2.1.2, HBD.out.2.2.1, HBD.out.2.2.2, hl2, by omega, hc4, hc2, Own.low (base' := w.heap.size) (HO4.out.grown HGB9.out (own_gap7 HO4.out (by omega))) (by omega), Own.low (base' := w.heap.size) (HE4.out.grown HGB9.out (own_gap7 HE4.out (by omega))) (by omega), HSR9.out, HGW9.out⟩
              · have hb0 : (y == 0) = false := by simp [hy]
                have hb1 : (y == 1) = false := by simp [hy']
                obtain ⟨z0, z1, z2', z3', z4, z5, f0, f1, f2, f3, f4, f5⟩ := row6c HD3.out.zero
                obtain ⟨d0, d1, d2, d3, d4, d5, -, -, -, -, -, -⟩ := row6c HD3.out.lay
                have HZ9 := hide (row_set6 HD3.out.zero (.int .i64 p) (.int .i64 k) (.int .i64 γ) (.int .i64 ((d : Nat) : Int)) (.int .i64 ((c' : Nat) : Int)) (.int .i64 ((m : Nat) : Int)))
                have hgb9 : ∀ (x0 x1 x2 x3 x4 x5 : Value), w3.grownBy (set6 w3 w.heap.size x0 x1 x2 x3 x4 x5) (some w.heap.size) := fun x0 x1 x2 x3 x4 x5 => by
                  unfold set6; exact grown_set (grown_set (grown_set (grown_set (grown_set (grown_set (World.grownBy.refl w3 (some w.heap.size)) 0 x0) 1 x1) 2 x2) 3 x3) 4 x4) 5 x5
                have HGB9 := hide (hgb9 (.int .i64 p) (.int .i64 k) (.int .i64 γ) (.int .i64 ((d : Nat) : Int)) (.int .i64 ((c' : Nat) : Int)) (.int .i64 ((m : Nat) : Int)))
                have HSR9 := hide (src_set6 HD3.out.src HD3.out.hg (.int .i64 p) (.int .i64 k) (.int .i64 γ) (.int .i64 ((d : Nat) : Int)) (.int .i64 ((c' : Nat) : Int)) (.int .i64 ((m : Nat) : Int)))
                have HGW9 := hide (grown_set6 HD3.out.grw w.heap.size (Nat.le_refl _) (.int .i64 p) (.int .i64 k) (.int .i64 γ) (.int .i64 ((d : Nat) : Int)) (.int .i64 ((c' : Nat) : Int)) (.int .i64 ((m : Nat) : Int)))
                have hfold : ((((((w3.setCell ⟨w.heap.size, 0, none⟩ (.int .i64 p)).setCell ⟨w.heap.size, 1, none⟩ (.int .i64 k)).setCell ⟨w.heap.size, 2, none⟩ (.int .i64 γ)).setCell ⟨w.heap.size, 3, none⟩ (.int .i64 ((d : Nat) : Int))).setCell ⟨w.heap.size, 4, none⟩ (.int .i64 ((c' : Nat) : Int))).setCell ⟨w.heap.size, 5, none⟩ (.int .i64 ((m : Nat) : Int))) = set6 w3 w.heap.size (.int .i64 p) (.int .i64 k) (.int .i64 γ) (.int .i64 ((d : Nat) : Int)) (.int .i64 ((c' : Nat) : Int)) (.int .i64 ((m : Nat) : Int)) := rfl
                clear hgb9
                go_wp2_with fail
                generalize set6 w3 w.heap.size (.int .i64 p) (.int .i64 k) (.int .i64 γ) (.int .i64 ((d : Nat) : Int)) (.int .i64 ((c' : Nat) : Int)) (.int .i64 ((m : Nat) : Int)) = w9 at HZ9 HGB9 HSR9 HGW9 ⊢
                clear hfold z0 z1 z2' z3' z4 z5 f0 f1 f2 f3 f4 f5 d0 d1 d2 d3 d4 d5
                obtain ⟨y0, y1, y2, y3, y4, y5, -, -, -, -, -, -⟩ := row6c HZ9.out
                refine bodyPost_ret (v := .tuple #[.agg #[.int .i64 p, .int .i64 k, .int .i64 γ, .int .i64 ((d : Nat) : Int), .int .i64 ((c' : Nat) : Int), .int .i64 ((m : Nat) : Int)], .slice (some ⟨gS, 0, none⟩) Nn cg, .slice A2 es.length c2]) (by simp [results, Tryz.results44, go_sem, y0, y1, y2, y3, y4, y5]) rfl ?_
                exact ⟨p, k, γ, d, c', m, zs, es, some ⟨gS, 0, none⟩, A2, cg, c2, by rw [HZL.out], HBD.out.1.1, HBD.out.1.2, HBD.out.2.1.1, HBD.out.2.1.2, HBD.out.2.2.1, HBD.out.2.2.2, by rw [HZL.out]; omega, by omega, by rw [HZL.out]; exact hcg, hc2, Own.low (base' := w.heap.size) (show Own w9 (N + 1) 2 .i64 (.slice (some ⟨gS, 0, none⟩) zs.length cg) zs by rw [HZL.out]; exact HO3.out.grown HGB9.out (own_gap7 HO3.out (by omega))) (by omega), Own.low (base' := w.heap.size) (HE3.out.grown HGB9.out (own_gap7 HE3.out (by omega))) (by omega), HSR9.out, HGW9.out⟩
end Go.Proofs.YtlphodhecaagbaaGreat

namespace Go.Proofs.YtlphodhecaagbaaGreat
open Go.RowKit
set_option linter.unusedVariables false
set_option linter.unusedSimpArgs false

/-- What a draw of a layout and two lists leaves. -/
def DrawnYSL (w : World) (x : Ending) (w' : World) : Prop :=
  ∃ (p k γ D K C : Int) (zs es : List Int) (A1 A2 : Option Addr) (c1 c2 : Nat), x = .returned (.tuple #[.agg #[.int .i64 p, .int .i64 k, .int .i64 γ, .int .i64 D, .int .i64 K, .int .i64 C], .slice A1 zs.length c1, .slice A2 es.length c2]) ∧ 0 ≤ D ∧ D ≤ 3000 ∧ 0 ≤ K ∧ K ≤ 3000 ∧ 0 ≤ C ∧ C ≤ 4000 ∧
    zs.length ≤ 2002 ∧ es.length ≤ 2001 ∧ zs.length ≤ c1 ∧ es.length ≤ c2 ∧ Ints .i64 w' w'.heap.size A1 zs.length zs ∧ Ints .i64 w' w'.heap.size A2 es.length es ∧ Below w.heap.size w w'
theorem Yst.own {w wr wr' : World} {g Bc N n c : Nat} {A : Option Addr} {code : List Int} {p k γ D K C : Int} (h : Yst w g Bc A n c code N p k γ D K C wr) {row : Option Nat} (hg : wr.grownBy wr' row) (hr : ∀ b, row = some b → N < b) : Yst w g Bc A n c code N p k γ D K C wr' := by
  obtain ⟨h1, h2, h3, h4, h5, h6⟩ := h
  exact ⟨h1.still hg (fun r hr' => by have := hr r hr'; omega), row_grownN h2 hg (fun e => by have := hr _ e; omega), row_grownN h3 hg (fun e => by have := hr _ e; omega), h4.grown hg h4.size (fun r e => by have := hr r e; omega), h5, h6⟩
def SdwRel (w : World) (g Bc : Nat) (A : Option Addr) (n c : Nat) (code : List Int) (N : Nat) (p k γ D K C : Int) (B8 Be L : Nat) (A2 : Option Addr) (c2 : Nat) (es : List Int) (v i : Value) (wr : World) : Prop :=
  ∃ (j : Nat) (ds : List Int), i = .int .i64 j ∧ j ≤ L ∧ Be ≤ wr.heap.size ∧ ds.length ≤ j ∧ Own wr Be 2 .i64 v ds ∧ Own wr B8 2 .i64 (.slice A2 es.length c2) es ∧ Yst w g Bc A n c code N p k γ D K C wr

set_option maxRecDepth 100000 in
set_option maxHeartbeats 8000000 in
theorem drawStreamD (A : Option Addr) (n c : Nat) (code : List Int) (w : World) (hI : Ints .u8 w w.heap.size A n code) (hn : n ≤ 4096) (hby : ∀ b ∈ code, 0 ≤ b ∧ b ≤ 255) :
    Calls Tryz.prog 17 #[.slice A n c] w (DrawnYSL w) := by
  have HI := hide ((hI.below ((Below.refl _ _).alloc (Nat.le_refl _) (.cells #[.int .i64 0, .int .i64 0, .int .i64 0, .int .i64 0, .int .i64 0, .int .i64 0] 27))).more (B' := (w.alloc (.cells #[.int .i64 0, .int .i64 0, .int .i64 0, .int .i64 0, .int .i64 0, .int .i64 0] 27)).heap.size) (by rw [alloc_size]; omega))
  have HBY := hide hby
  have HZ := hide (show YRow (w.alloc (.cells #[.int .i64 0, .int .i64 0, .int .i64 0, .int .i64 0, .int .i64 0, .int .i64 0] 27)) w.heap.size 0 0 0 0 0 0 from heap_alloc_new w _)
  clear hI hby
  go_enter Tryz.func17, Tryz.ntmps17
  go_wp2_with fail
  refine (from_any A n c code _ HI.out hn HBY.out).mono ?_
  rintro e w1 ⟨rfl, hs, hb⟩
  have HZ1 := hide (HZ.out.next hb)
  have HB1 := hide (((Below.refl w.heap.size w).alloc (Nat.le_refl _) (.cells #[.int .i64 0, .int .i64 0, .int .i64 0, .int .i64 0, .int .i64 0, .int .i64 0] 27)).trans (hb.mono (by rw [alloc_size]; omega)))
  have hg1 : (w.alloc (.cells #[.int .i64 0, .int .i64 0, .int .i64 0, .int .i64 0, .int .i64 0, .int .i64 0] 27)).heap.size = w.heap.size + 1 := alloc_size _ _
  generalize (w.alloc (.cells #[.int .i64 0, .int .i64 0, .int .i64 0, .int .i64 0, .int .i64 0, .int .i64 0] 27)).heap.size = g at hs hg1 ⊢
  have hgN : w.heap.size < g := by omega
  have HS1 := hide hs
  have hg1l : g < w1.heap.size := hs.lt
  clear hs hb hg1
  go_wp2_with fail
  refine (drawStream g _ A n c code _ HS1.out).mono ?_
  rintro e w2 ⟨p, k, γ, D, K, C, zs, es, A1, A2, c1, c2, rfl, hD0, hD1, hK0, hK1, hC0, hC1, hlz, hle, hcz, hce, hoz, hoe, hs, hg⟩
  have hz2 := row_grown HZ1.out hg (show g ≠ w.heap.size by omega)
  have HD2 := hide (show Yst w g _ A n c code w2.heap.size p k γ D K C (w2.alloc (.cells #[.int .i64 p, .int .i64 k, .int .i64 γ, .int .i64 D, .int .i64 K, .int .i64 C] 27)) from
    ⟨hs.still (World.grownBy_alloc w2 _ none) (by simp), row_old hz2 _, heap_alloc_new w2 _, (below_grown HB1.out hg (by omega)).alloc (Nat.le_of_lt (Array.getElem?_eq_some_iff.1 hz2).1) _, hgN, hs.lt⟩)
  have HBD := hide (And.intro (And.intro hD0 hD1) (And.intro (And.intro hK0 hK1) (And.intro hC0 hC1)))
  have HE2 := hide (hoe.below ((Below.refl _ w2).alloc (Nat.le_refl _) (.cells #[.int .i64 p, .int .i64 k, .int .i64 γ, .int .i64 D, .int .i64 K, .int .i64 C] 27)) (Nat.le_refl _))
  have hwN0 : (w2.alloc (.cells #[.int .i64 p, .int .i64 k, .int .i64 γ, .int .i64 D, .int .i64 K, .int .i64 C] 27)).heap.size = w2.heap.size + 1 := alloc_size _ _
  have HWN := hide hwN0
  clear hwN0
  have hgw2 := hg.size
  clear hs hg HZ1 HB1 HS1 HZ HI hz2 hoz hoe hD0 hD1 hK0 hK1 hC0 hC1
  go_wp2_with fail
  generalize w2.alloc (.cells #[.int .i64 p, .int .i64 k, .int .i64 γ, .int .i64 D, .int .i64 K, .int .i64 C] 27) = ws at HD2 HE2 HWN ⊢
  generalize w2.heap.size = N at HD2 HWN hgw2 ⊢
  generalize w1.heap.size = B8 at HE2 hg1l hgw2 ⊢
  have HOb := hide (Own.lit0 ws 2 .i64)
  have HDb := hide (HD2.out.own (row := none) (wr' := ws.alloc (.cells #[] 2)) (World.grownBy_alloc ws _ none) (fun b e => by cases e))
  have HEb := hide (HE2.out.below ((Below.refl _ ws).alloc (Nat.le_refl _) (.cells #[] 2)) (Nat.le_refl _))
  have hwb0 : (ws.alloc (.cells #[] 2)).heap.size = ws.heap.size + 1 := alloc_size _ _
  have hBe8 : ∀ b, (Value.slice A2 es.length c2).ownBlock = some b → b < ws.heap.size := fun b hb => (HE2.out.lt hb).2
  have HB8 := hide hBe8
  have HWB := hide hwb0
  clear hBe8 hwb0
  go_wp2_with fail
  generalize ws.alloc (.cells #[] 2) = wb at HOb HDb HEb HWB ⊢
  rw [HWN.out] at HOb HB8 HWB
  have hNB : N + 1 = N + 1 := rfl
  obtain ⟨Be, hBN⟩ : ∃ Be, N + 1 = Be := ⟨_, rfl⟩
  rw [hBN] at HOb HB8 HWB ⊢
  clear hNB
  obtain ⟨L, hL⟩ : ∃ L, zs.length = L := ⟨_, rfl⟩
  rw [hL] at hlz hcz ⊢
  clear hL
  have hwb0 := HWB.out
  go_loopw [9, 10] (fun v i wr => SdwRel w g _ A n c code N p k γ D K C B8 Be L A2 c2 es v i wr) (fun _ i _ => L - (intOf i).toNat)
  case atStart => exact ⟨0, [], rfl, Nat.zero_le _, by omega, Nat.le_refl _, HOb.out, HEb.out, HDb.out⟩
  case round =>
    clear HOb HDb HEb HD2 HE2
    obtain ⟨v, hvv⟩ : ∃ v : Value, v = u9 := ⟨_, rfl⟩
    subst hvv
    obtain ⟨j, ds, rfl, hj, hBe, hds, hE, hS, hD⟩ := hrel
    have HE := hide hE
    have HS := hide hS
    have HD := hide hD
    clear hE hS hD
    have HVG := hide (own_gap7 HE.out (B := g) (by omega))
    have HVN := hide (show ∀ b, v.ownBlock = some b → N < b from fun b hb => by have := (HE.out.lt hb).1; omega)
    have HVS := hide (show (Value.slice A2 es.length c2).ownBlock = none ∨ (Value.slice A2 es.length c2).ownBlock ≠ v.ownBlock from by
      rcases hq : (Value.slice A2 es.length c2).ownBlock with _ | q
      · exact .inl rfl
      · refine .inr fun e => ?_
        have h1 := HB8.out q hq
        have h2 := (HE.out.lt e.symm).1
        omega)
    by_cases hlt : j < L
    · have htj : (j : Int) < (L : Int) := by omega
      go_wp2_with fail
      refine (next_any g _ A n c code 8 _ HD.out.1 (by omega)).mono ?_
      rintro e w3 ⟨y, rfl, hy0, hy1, hs, hg⟩
      have HD3 := hide (HD.out.src hs hg)
      have HS3 := hide (HS.out.grown hg (own_gap7 HS.out (by omega)))
      have HE3 := hide (HE.out.grown hg HVG.out)
      have hsz3 : Be ≤ w3.heap.size := Nat.le_trans hBe hg.size
      clear hs hg hy1
      by_cases hy : y = 0
      · subst hy
        go_wp2_with (
          at_builtin
          refine wpList_app1 w3 rfl _ _ _ rfl elem64 Be v _ rfl HE3.out (j : Int) rfl (by omega) hsz3 ?_
          intro v4 w4 hown hgrow
          have HE4 := hide hown
          have hgr4 := hide hgrow.size
          have HS4 := hide (HS3.out.grown hgrow HVS.out)
          have HD4 := hide (HD3.out.own hgrow HVN.out)
          clear hown hgrow)
        go_roundw
        case rel => exact ⟨j + 1, ds ++ [(j : Int)], by go_num, by omega, Nat.le_trans hsz3 hgr4.out, by simp; omega, HE4.out, HS4.out, HD4.out⟩
        case measure => simp [intOf]; omega
      · have hb0 : (y == 0) = false := by simp [hy]
        go_wp2_with fail
        go_roundw
        case rel => exact ⟨j + 1, ds, by go_num, by omega, hsz3, by omega, HE3.out, HS3.out, HD3.out⟩
        case measure => simp [intOf]; omega
    · have htj : ¬ (j : Int) < (L : Int) := by omega
      go_wp2_with fail
      refine (next_any g _ A n c code 30 _ HD.out.1 (by omega)).mono ?_
      rintro e w3 ⟨y, rfl, hy0, hy1, hs, hg⟩
      have HD3 := hide (HD.out.src hs hg)
      have HS3 := hide (HS.out.grown hg (own_gap7 HS.out (by omega)))
      have HE3 := hide (HE.out.grown hg HVG.out)
      have hsz3 : Be ≤ w3.heap.size := Nat.le_trans hBe hg.size
      obtain ⟨A3, c3, hve, hc3⟩ := HE3.out.form
      subst hve
      clear hs hg hy1
      by_cases hy : y = 0
      · subst hy
        go_wp2_with (
          at_builtin
          refine wpList_app1 w3 rfl _ _ _ rfl elem64 Be (.slice A3 ds.length c3) _ rfl HE3.out (-1) rfl (by omega) hsz3 ?_
          intro v4 w4 hown hgrow
          have HS4 := hide (HS3.out.grown hgrow HVS.out)
          have HD4 := hide (HD3.out.own hgrow HVN.out)
          obtain ⟨l2, he2⟩ : ∃ l, ds ++ [(-1 : Int)] = l := ⟨_, rfl⟩
          rw [he2] at hown
          have hl2 : l2.length ≤ 2002 := by rw [← he2]; simp; omega
          obtain ⟨A4, c4, hv4, hc4⟩ := hown.form
          subst hv4
          have HE4 := hide hown
          clear hown hgrow he2
          obtain ⟨z0, z1, z2', z3', z4, z5, f0, f1, f2, f3, f4, f5⟩ := row6c HD4.out.2.1
          obtain ⟨d0, d1, d2, d3, d4, d5, -, -, -, -, -, -⟩ := row6c HD4.out.2.2.1
          have HZ9 := hide (row_set6 HD4.out.2.1 (.int .i64 p) (.int .i64 k) (.int .i64 γ) (.int .i64 D) (.int .i64 K) (.int .i64 C))
          have hgb9 : ∀ (x0 x1 x2 x3 x4 x5 : Value), w4.grownBy (set6 w4 w.heap.size x0 x1 x2 x3 x4 x5) (some w.heap.size) := fun x0 x1 x2 x3 x4 x5 => by
            unfold set6; exact grown_set (grown_set (grown_set (grown_set (grown_set (grown_set (World.grownBy.refl w4 (some w.heap.size)) 0 x0) 1 x1) 2 x2) 3 x3) 4 x4) 5 x5
          have HGB9 := hide (hgb9 (.int .i64 p) (.int .i64 k) (.int .i64 γ) (.int .i64 D) (.int .i64 K) (.int .i64 C))
          have HBW9 := hide (below_set6 HD4.out.2.2.2.1 (.int .i64 p) (.int .i64 k) (.int .i64 γ) (.int .i64 D) (.int .i64 K) (.int .i64 C))
          have hfold : ((((((w4.setCell ⟨w.heap.size, 0, none⟩ (.int .i64 p)).setCell ⟨w.heap.size, 1, none⟩ (.int .i64 k)).setCell ⟨w.heap.size, 2, none⟩ (.int .i64 γ)).setCell ⟨w.heap.size, 3, none⟩ (.int .i64 D)).setCell ⟨w.heap.size, 4, none⟩ (.int .i64 K)).setCell ⟨w.heap.size, 5, none⟩ (.int .i64 C)) = set6 w4 w.heap.size (.int .i64 p) (.int .i64 k) (.int .i64 γ) (.int .i64 D) (.int .i64 K) (.int .i64 C) := rfl
          clear hgb9)
        generalize set6 w4 w.heap.size (.int .i64 p) (.int .i64 k) (.int .i64 γ) (.int .i64 D) (.int .i64 K) (.int .i64 C) = w9 at HZ9 HGB9 HBW9 ⊢
        clear hfold z0 z1 z2' z3' z4 z5 f0 f1 f2 f3 f4 f5 d0 d1 d2 d3 d4 d5
        obtain ⟨y0, y1, y2, y3, y4, y5, -, -, -, -, -, -⟩ := row6c HZ9.out
        refine bodyPost_ret (v := .tuple #[.agg #[.int .i64 p, .int .i64 k, .int .i64 γ, .int .i64 D, .int .i64 K, .int .i64 C], .slice A4 l2.length c4, .slice A2 es.length c2]) (by simp [results, Tryz.results17, go_sem, y0, y1, y2, y3, y4, y5]) rfl ?_
        exact ⟨p, k, γ, D, K, C, l2, es, A4, A2, c4, c2, rfl, HBD.out.1.1, HBD.out.1.2, HBD.out.2.1.1, HBD.out.2.1.2, HBD.out.2.2.1, HBD.out.2.2.2, hl2, hle, hc4, hce, Own.ints (HE4.out.grown HGB9.out (own_gap7 HE4.out (by omega))), Own.ints (HS4.out.grown HGB9.out (own_gap7 HS4.out (by omega))), HBW9.out⟩
      · have hb0 : (y == 0) = false := by simp [hy]
        obtain ⟨z0, z1, z2', z3', z4, z5, f0, f1, f2, f3, f4, f5⟩ := row6c HD3.out.2.1
        obtain ⟨d0, d1, d2, d3, d4, d5, -, -, -, -, -, -⟩ := row6c HD3.out.2.2.1
        have HZ9 := hide (row_set6 HD3.out.2.1 (.int .i64 p) (.int .i64 k) (.int .i64 γ) (.int .i64 D) (.int .i64 K) (.int .i64 C))
        have hgb9 : ∀ (x0 x1 x2 x3 x4 x5 : Value), w3.grownBy (set6 w3 w.heap.size x0 x1 x2 x3 x4 x5) (some w.heap.size) := fun x0 x1 x2 x3 x4 x5 => by
          unfold set6; exact grown_set (grown_set (grown_set (grown_set (grown_set (grown_set (World.grownBy.refl w3 (some w.heap.size)) 0 x0) 1 x1) 2 x2) 3 x3) 4 x4) 5 x5
        have HGB9 := hide (hgb9 (.int .i64 p) (.int .i64 k) (.int .i64 γ) (.int .i64 D) (.int .i64 K) (.int .i64 C))
        have HBW9 := hide (below_set6 HD3.out.2.2.2.1 (.int .i64 p) (.int .i64 k) (.int .i64 γ) (.int .i64 D) (.int .i64 K) (.int .i64 C))
        have hfold : ((((((w3.setCell ⟨w.heap.size, 0, none⟩ (.int .i64 p)).setCell ⟨w.heap.size, 1, none⟩ (.int .i64 k)).setCell ⟨w.heap.size, 2, none⟩ (.int .i64 γ)).setCell ⟨w.heap.size, 3, none⟩ (.int .i64 D)).setCell ⟨w.heap.size, 4, none⟩ (.int .i64 K)).setCell ⟨w.heap.size, 5, none⟩ (.int .i64 C)) = set6 w3 w.heap.size (.int .i64 p) (.int .i64 k) (.int .i64 γ) (.int .i64 D) (.int .i64 K) (.int .i64 C) := rfl
        clear hgb9
        go_wp2_with fail
        generalize set6 w3 w.heap.size (.int .i64 p) (.int .i64 k) (.int .i64 γ) (.int .i64 D) (.int .i64 K) (.int .i64 C) = w9 at HZ9 HGB9 HBW9 ⊢
        clear hfold z0 z1 z2' z3' z4 z5 f0 f1 f2 f3 f4 f5 d0 d1 d2 d3 d4 d5
        obtain ⟨y0, y1, y2, y3, y4, y5, -, -, -, -, -, -⟩ := row6c HZ9.out
        refine bodyPost_ret (v := .tuple #[.agg #[.int .i64 p, .int .i64 k, .int .i64 γ, .int .i64 D, .int .i64 K, .int .i64 C], .slice A3 ds.length c3, .slice A2 es.length c2]) (by simp [results, Tryz.results17, go_sem, y0, y1, y2, y3, y4, y5]) rfl ?_
        exact ⟨p, k, γ, D, K, C, ds, es, A3, A2, c3, c2, rfl, HBD.out.1.1, HBD.out.1.2, HBD.out.2.1.1, HBD.out.2.1.2, HBD.out.2.2.1, HBD.out.2.2.2, by omega, hle, hc3, hce, Own.ints (HE3.out.grown HGB9.out (own_gap7 HE3.out (by omega))), Own.ints (HS3.out.grown HGB9.out (own_gap7 HS3.out (by omega))), HBW9.out⟩
end Go.Proofs.YtlphodhecaagbaaGreat

namespace Go.Proofs.YtlphodhecaagbaaGreat
open Go.RowKit
set_option linter.unusedSimpArgs false
set_option linter.unusedVariables false

def HnRel (n : Nat) (z : Int) (zs : List Int) (i : Value) : Prop := ∃ j : Nat, j ≤ n ∧ i = .int .i64 j ∧ Hid (decide (z ∈ zs.drop j) = decide (z ∈ zs))
set_option maxHeartbeats 2000000 in
theorem lawHas (A : Option Addr) (n c B : Nat) (zs : List Int) (z : Int) (w : World) (hI : Ints .i64 w B A n zs) (hn : n ≤ 1099511627776) :
    Calls Tryz.prog 20 #[.slice A n c, .int .i64 z] w fun e w' => e = .returned (.bool (decide (z ∈ zs))) ∧ w = w' := by
  have HZ := hide hI.len
  have HI := hide hI
  clear hI
  go_enter Tryz.func20, Tryz.ntmps20
  go_wp2_with fail
  go_loop [5] (fun i => HnRel n z zs i) (fun i => n - (intOf i).toNat)
  case atStart => exact ⟨0, by omega, rfl, rfl⟩
  case round =>
    obtain ⟨j, hj, rfl, HR⟩ := hrel
    by_cases hlt : j < n
    · obtain ⟨b, off, x, rfl, hb, hx, hc⟩ := HI.out.at_ hlt
      have HD := hide (drop_at hx)
      clear hx
      by_cases hxy : x = z
      · have HF := hide (show decide (z ∈ zs) = true by
          rw [← HR.out, HD.out, hxy]; simp)
        subst hxy
        go_wp2_with fail
        go_ret
        exact ⟨ret_bool HF, rfl⟩
      · have HN := hide (show decide (z ∈ zs.drop (j + 1)) = decide (z ∈ zs) by
          rw [← HR.out, HD.out]; simp [Ne.symm hxy])
        have e1 : (x == z) = false := by simpa using hxy
        clear hxy
        go_wp2_with fail
        go_round
        case rel => exact ⟨j + 1, by omega, by go_num, HN⟩
        case measure => simp [intOf]; omega
    · have HF := hide (show decide (z ∈ zs) = false by
        rw [← HR.out, List.drop_of_length_le (by rw [HZ.out]; omega)]; rfl)
      go_wp2_with fail
      go_ret
      exact ⟨ret_bool HF, rfl⟩
end Go.Proofs.YtlphodhecaagbaaGreat
