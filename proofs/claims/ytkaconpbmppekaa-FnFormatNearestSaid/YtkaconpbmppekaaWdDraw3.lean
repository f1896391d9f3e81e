/-
  The draw of a list for a format code.
  Condition: the code has at most 4096 bytes.
-/
import Derived.Test.YtkaconpbmppekaaWdDraw2
import Derived.Test.YtkaconpbmppekaaWd8
namespace Go.Proofs.Ytkaconpbmppekaa
open Go.RowKit
set_option linter.unusedSimpArgs false
set_option linter.unusedVariables false

theorem own_lit {w : World} {base : Nat} (hb : base ≤ w.heap.size) (x y : Int) : Own (w.alloc (.cells #[.int .i64 x, .int .i64 y] 2)) base 2 .i64 (.slice (some ⟨w.heap.size, 0, none⟩) 2 2) [x, y] :=
  Own.intro (World.ownsRow_lit (base := base) (size := 1) w #[.int .i64 x, .int .i64 y] 2 hb (by decide) rfl) rfl rfl
/-- What a draw of a list leaves. -/
def DrawnWL (g Bc : Nat) (A : Option Addr) (n c : Nat) (code : List Int) (w : World) (x : Ending) (w' : World) : Prop :=
  ∃ (zs : List Int) (B : Option Addr) (m : Nat), x = .returned (.slice B zs.length m) ∧ zs.length ≤ 100 ∧ Own w' w.heap.size 2 .i64 (.slice B zs.length m) zs ∧ Src w' g Bc A n c code ∧ w.grownBy w' (some g)
theorem and_low {v : Int} {D N : Nat} (hv : 0 ≤ v ∧ v ≤ 1000) (hD : D ≤ 8) (hN : N = 2 ^ D) : ∃ y : Nat, bits .and .i64 v ((N : Int) - 1) = (y : Int) ∧ y < 2 ^ D := by
  obtain ⟨u, rfl⟩ : ∃ u : Nat, v = u := ⟨v.toNat, by omega⟩
  have h256 : 2 ^ D ≤ 256 := (Nat.pow_le_pow_right (n := 2) (by decide) hD : 2 ^ D ≤ 2 ^ 8)
  have h1 : 1 ≤ 2 ^ D := Nat.two_pow_pos D
  refine ⟨u % 2 ^ D, ?_, Nat.mod_lt _ (by omega)⟩
  rw [← Nat.and_two_pow_sub_one_eq_mod, ← hN]
  have := andI u (N - 1) (by omega) (by omega)
  rw [show ((N - 1 : Nat) : Int) = (N : Int) - 1 by omega] at this
  exact this
theorem wtwo_pow {D : Nat} (h : D ≤ 8) : ∃ N : Nat, N = 2 ^ D ∧ 1 ≤ N ∧ N ≤ 256 ∧ wrap64 (2 ^ min D 64) = (N : Int) ∧ wrap64 ((N : Int) - 1) = (N : Int) - 1 ∧ IntKind.u64.wrap (D : Int) = (D : Int) := by
  obtain ⟨pw, hpw, he, hp1, hp2⟩ := pow_fits D (by omega)
  have h256 : 2 ^ D ≤ 256 := (Nat.pow_le_pow_right (n := 2) (by decide) h : 2 ^ D ≤ 2 ^ 8)
  have hc : (2 : Int) ^ D = ((2 ^ D : Nat) : Int) := by push_cast; rfl
  have h1 : 1 ≤ 2 ^ D := Nat.two_pow_pos D
  exact ⟨2 ^ D, rfl, h1, h256, by rw [Nat.min_eq_left (by omega), hpw, he, hc], by unfold wrap64; omega, by rw [IntKind.wrap_u64]; omega⟩

/-- In the draw of a list. -/
structure Wls (g Bc : Nat) (A : Option Addr) (n c : Nat) (code : List Int) (w W : World) (D L P : Nat) (v : Value) (zs : List Int) : Prop where
  src : Src W g Bc A n c code
  gro : w.grownBy W (some g)
  row : Row3 W w.heap.size D L P
  own : Own W (w.heap.size + 1) 2 .i64 v zs
theorem Wls.next {g Bc : Nat} {A : Option Addr} {n c : Nat} {code : List Int} {w W W' : World} {D L P : Nat} {v : Value} {zs : List Int} (h : Wls g Bc A n c code w W D L P v zs) (hgw : g < w.heap.size) (hs : Src W' g Bc A n c code) (hg : W.grownBy W' (some g)) : Wls g Bc A n c code w W' D L P v zs :=
  ⟨hs, grown_trans h.gro hg, h.row.grown hg (by omega), h.own.grown hg (by
    rcases hv : v.ownBlock with _ | b
    · exact .inl rfl
    · exact .inr (fun e => by have := h.own.lt hv; injection e with e; omega))⟩

theorem Wls.store {g Bc : Nat} {A : Option Addr} {n c : Nat} {code : List Int} {w W : World} {D L P gb l m : Nat} {zs : List Int} (h : Wls g Bc A n c code w W D L P (.slice (some ⟨gb, 0, none⟩) l m) zs) (hgw : g < w.heap.size) (j : Nat) (x : Int) : Wls g Bc A n c code w (W.setCell ⟨gb, j, none⟩ (.int .i64 x)) D L P (.slice (some ⟨gb, 0, none⟩) l m) (zs.set j x) := by
  have hb := (h.own.lt (g := gb) rfl).1
  exact ⟨wset_src h.src (by omega) _ _, wset_grown h.gro _ _ _ (by omega), h.row.other (by omega) _ _, (h.own.stored j x).1⟩
theorem wgrow_new {a w w' : World} {row : Option Nat} {b : Nat} (h : a.grownBy w row) (hg : w.grownBy w' (some b)) (hb : a.heap.size ≤ b) : a.grownBy w' row :=
  ⟨hg.os.trans h.os, hg.tape.trans h.tape, hg.output.trans h.output, Nat.le_trans h.size hg.size, fun i hi hne => (hg.block i (Nat.lt_of_lt_of_le hi h.size) (fun e => by injection e with e; omega)).trans (h.block i hi hne)⟩

set_option maxRecDepth 100000 in
set_option maxHeartbeats 600000 in
theorem drawList (g Bc : Nat) (A : Option Addr) (n c : Nat) (code : List Int) (w : World) (hS : Src w g Bc A n c code) (d l p v : Int) (hl : -9223372036854775808 ≤ l) (hv : 0 ≤ v ∧ v ≤ 1000) :
    Calls Try.prog 54 #[.pointer (some ⟨g, 0, none⟩), .agg #[.int .i64 d, .int .i64 l, .int .i64 p], .int .i64 v] w (DrawnWL g Bc A n c code w) := by
  have hgw := hS.lt
  have hws : (w.alloc (.cells #[.int .i64 d, .int .i64 l, .int .i64 p] 25)).heap.size = w.heap.size + 1 := alloc_size _ _
  have HS := hide (hS.still (World.grownBy_alloc w (.cells #[.int .i64 d, .int .i64 l, .int .i64 p] 25) none) (by simp))
  have HR := hide (Row3.start w d l p)
  have HG := hide (World.grownBy_alloc w (.cells #[.int .i64 d, .int .i64 l, .int .i64 p] 25) (some g))
  have HV := hide (fun w' => specFcIs d l p hl w')
  obtain ⟨c0, c1, c2⟩ := HR.out.cells
  clear hS
  rcases hf : fcB d l p with _ | _
  · rw [hf] at HV
    clear hf
    go_enter Try.func54, Try.ntmps54
    go_wp2_with fail
    refine (HV.out _).mono ?_
    rintro e w1 ⟨rfl, hb⟩
    have HS1 := hide (HS.out.below hb HS.out.lt)
    have HG1 := hide (wbelow_grown HG.out hb)
    have hw1 : w.heap.size ≤ w1.heap.size := by have := hb.size; omega
    clear hb c0 c1 c2
    go_wp2_with fail
    go_ret
    exact ⟨[0, 1], some ⟨w1.heap.size, 0, none⟩, 2, rfl, by simp, own_lit hw1 0 1, HS1.out.still (World.grownBy_alloc _ _ none) (by simp), walloc_grown HG1.out _⟩
  · rw [hf] at HV
    obtain ⟨D, L, P, K, rfl, rfl, rfl, hf'⟩ := fcB_open hf
    obtain ⟨N, hN, hN1, hN2, hpw, hcv, hcu⟩ := wtwo_pow hf'.d8
    obtain ⟨y, hy, hy2⟩ := and_low hv hf'.d8 hN
    have HW := hide (fun w' => specWord hf' y hy2 w')
    have hL := hf'.l24
    have hL2 : 2 ≤ L := by have := hf'.lk; have := hf'.d1; have := hf'.k1; omega
    clear hf hf' hN hy2
    go_enter Try.func54, Try.ntmps54
    go_wp2_with fail
    refine (HV.out _).mono ?_
    rintro e w1 ⟨rfl, hb⟩
    have HS1 := hide (HS.out.below hb HS.out.lt)
    have HG1 := hide (wbelow_grown HG.out hb)
    have HR1 := hide (HR.out.below hb)
    have hw1 : w.heap.size + 1 ≤ w1.heap.size := by have := hb.size; omega
    clear hb c0 c1 c2
    obtain ⟨c0, c1, c2⟩ := HR1.out.cells
    go_wp2_with fail
    refine (HW.out _).mono ?_
    rintro e w2 ⟨A2, m2, rfl, hm2, hown, hb⟩
    have HL0 := hide (show Wls g Bc A n c code w w2 D L P (.slice A2 (bitsOf (wordF D K P y : Nat) L).length m2) (bitsOf (wordF D K P y : Nat) L) from
      ⟨HS1.out.below hb HS1.out.lt, wbelow_grown HG1.out hb, HR1.out.below hb, hown.low (by omega)⟩)
    have hz0 : (bitsOf (wordF D K P y : Nat) L).length = L := bitsOf_len _ _
    obtain ⟨zz, hzz⟩ : ∃ zz, bitsOf (wordF D K P y : Nat) L = zz := ⟨_, rfl⟩
    rw [hzz] at HL0 hz0 hm2 ⊢
    rw [hz0] at HL0 hm2 ⊢
    obtain ⟨gb, cb, hvv, hgb1, hgb2, hgb3⟩ := HL0.out.own.some_ (by omega)
    injection hvv with hA2 hl2 hm2'
    subst hA2
    clear hb hown c0 c1 c2 hzz hpw hcv hcu hy hl2 hm2' hgb3
    go_wp2_with fail
    refine (next_any g Bc A n c code 5 _ HL0.out.src (by omega)).mono ?_
    rintro e w3 ⟨q, rfl, hq0, hq1, hs, hg⟩
    have HL1 := hide (HL0.out.next hgw hs hg)
    obtain ⟨q, rfl⟩ : ∃ m : Nat, q = m := ⟨q.toNat, by omega⟩
    clear hs hg
    obtain ⟨c0, c1, c2⟩ := HL1.out.row.cells
    have HZ0 := hide hz0
    clear hz0
    go_wp2_with fail
    go_loopw [8, 9] (fun i _ wr => ∃ (t : Nat) (zs : List Int), t ≤ q ∧ i = .int .i64 t ∧ Hid (zs.length = L) ∧ Wls g Bc A n c code w wr D L P (.slice (some ⟨gb, 0, none⟩) L m2) zs) (fun i _ _ => (intOf i).toNat)
    case atStart => exact ⟨q, zz, Nat.le_refl _, rfl, HZ0, HL1.out⟩
    case round =>
      clear c0 c1 c2
      obtain ⟨t, zs, ht, rfl, HZL, HL2⟩ := hrel
      have HL2 := hide HL2
      obtain ⟨c0, c1, c2⟩ := HL2.out.row.cells
      by_cases ht0 : t = 0
      · subst ht0
        go_wp2_with fail
        refine (next_any g Bc A n c code 40 _ HL2.out.src (by omega)).mono ?_
        rintro e w4 ⟨sw, rfl, hs0, hs1, hs, hg⟩
        have HL3 := hide (HL2.out.next hgw hs hg)
        clear hs hg c0 c1 c2
        have hgl := HL3.out.own.lt (g := gb) rfl
        rcases (show sw = 0 ∨ sw = 1 ∨ (sw ≠ 0 ∧ sw ≠ 1) by omega) with rfl | rfl | ⟨n1, n2⟩
        · have hll : (zs.length + 1) * 8 ≤ 140737488355328 := by have := HZL.out; omega
          have hba : w.heap.size + 1 ≤ w4.heap.size := by have := hgl.1; omega
          go_wp2_with (at_builtin; refine wpList_app1 w4 rfl _ _ _ rfl elem64 (w.heap.size + 1) (.slice (some ⟨gb, 0, none⟩) L m2) zs rfl HL3.out.own 0 rfl hll hba ?_; intro v' w5 hown1 hgrow)
          have HO5 := hide hown1
          have HG5 := hide hgrow
          clear hown1 hgrow
          go_wp2_with fail
          go_ret
          obtain ⟨A5, m5, rfl, hm5⟩ := HO5.out.form
          exact ⟨zs ++ [0], A5, m5, rfl, by rw [List.length_append]; have := HZL.out; simp; omega, HO5.out.low (by omega), HL3.out.src.still (row := some gb) HG5.out (fun r hr => by injection hr; omega), wgrow_new HL3.out.gro HG5.out (by show w.heap.size ≤ gb; omega)⟩
        · have h0L : zs[0]? = some (zs[0]'(by have := HZL.out; omega)) := List.getElem?_eq_getElem _
          have hcc := HL3.out.own.cellAt h0L
          have hff := HL3.out.own.frozenAt 0
          have hLp : (0 : Int) < (L : Int) := by omega
          have HL4 := hide (HL3.out.store hgw 0 2)
          clear h0L
          go_wp2_with fail
          go_ret
          have hlen : (zs.set 0 2).length = L := by rw [List.length_set]; exact HZL.out
          exact ⟨zs.set 0 2, some ⟨gb, 0, none⟩, m2, by rw [hlen]; rfl, by omega, by rw [hlen]; exact HL4.out.own.low (by omega), HL4.out.src, HL4.out.gro⟩
        · have e1 : (sw == 0) = false := by simpa using n1
          have e2 : (sw == 1) = false := by simpa using n2
          clear n1 n2
          go_wp2_with fail
          go_ret
          have hlen := HZL.out
          exact ⟨zs, some ⟨gb, 0, none⟩, m2, by rw [hlen]; rfl, by omega, by rw [hlen]; exact HL3.out.own.low (by omega), HL3.out.src, HL3.out.gro⟩
      · have htp : (0 : Int) < (t : Int) := by omega
        clear ht0
        go_wp2_with fail
        refine (next_any g Bc A n c code L _ HL2.out.src (by omega)).mono ?_
        rintro e w4 ⟨r, rfl, hr0, hr1, hs, hg⟩
        obtain ⟨r, rfl⟩ : ∃ m : Nat, r = m := ⟨r.toNat, by omega⟩
        have HL3 := hide (HL2.out.next hgw hs hg)
        have hrL : r < L := by omega
        clear hs hg c0 c1 c2
        go_wp2_with fail
        refine (next_any g Bc A n c code 3 _ HL3.out.src (by omega)).mono ?_
        rintro e w5 ⟨s, rfl, hs0, hs1, hs, hg⟩
        have HL4 := hide (HL3.out.next hgw hs hg)
        clear hs hg
        obtain ⟨x, hx⟩ : ∃ x, zs[r]? = some x := ⟨zs[r]'(by have := HZL.out; omega), List.getElem?_eq_getElem _⟩
        have hcc := HL4.out.own.cellAt hx
        have hff := HL4.out.own.frozenAt r
        have hLp : (r : Int) < (L : Int) := by omega
        have hLq : (0 : Int) ≤ (r : Int) := by omega
        have HL5 := hide (HL4.out.store hgw r (s - 1))
        have HLN := hide (show (zs.set r (s - 1)).length = L by rw [List.length_set]; exact HZL.out)
        clear hx
        go_wp2_with fail
        go_roundw
        case rel => exact ⟨t - 1, _, by omega, by congr 1; omega, HLN, HL5.out⟩
        case measure => simp [intOf]; omega
end Go.Proofs.Ytkaconpbmppekaa
