/-
  WriteMessage of the model.
  DecodePayload, of both.
  The model's filling of a payload and its elements.
  The model's EncodePayload.
  PayloadSize, of the model and of the program.
  The model's draw of a payload's field and elements: anything may come, within bounds.
  The model's draw for DecodePayload; what the functions of payloads say of one another.
  Condition: as each statement says.
-/
import Derived.Test.YthmpfnbcodolcaaQC
import Derived.Test.YthmpfnbcodolcaaQD
import Derived.Test.YthmpfnbcodolcaaIsBits
import Derived.Test.YthmpfnbcodolcaaWords
import Derived.Test.YthmpfnbcodolcaaPF
import Derived.Test.YthmpfnbcodolcaaPG
import Derived.Test.YthmpfnbcodolcaaPA
import Derived.Test.YthmpfnbcodolcaaNumber
import Derived.Test.YthmpfnbcodolcaaTail2
import Derived.Test.YthmpfnbcodolcaaQF
namespace Go.Proofs.Ythmpfnbcodolcaa
open Go Go.RowKit
set_option linter.unusedSimpArgs false
set_option linter.unusedVariables false

theorem bl_of {s : ByteArray} (hs : s.size ≤ 400) : blOf s = (((bsT s 0).l : Nat) : Int) := by
  rw [blOf, if_pos hs]; unfold bsT tabT; rw [bytesI_len]
set_option maxHeartbeats 1000000 in
theorem ownListW (A : Option Addr) (n c B : Nat) (zs : List Int) (w : World) (hI : Ints .i64 w B A n zs) (hB : B ≤ w.heap.size) (hn : n ≤ 1099511627776) :
    Calls Try.prog 130 #[.slice A n c] w (Longer 2 .i64 w.heap.size zs w) := by
  have HI := hide hI
  clear hI
  go_enter Try.func130, Try.ntmps130
  go_wp2_with (at_builtin; refine wpList_appL _ rfl _ _ _ rfl elem64 w.heap.size _ [] rfl (Own.lit0 w _ _) B A n c zs rfl (HI.out.below ((Below.refl B w).alloc hB _)) (by simp; omega) (by simp) ?_; intro v2 w2 hown hgr)
  have HO := hide (show Own w2 w.heap.size 2 .i64 v2 zs by simpa using hown)
  have HBl := hide (((Below.refl w.heap.size w).alloc (Nat.le_refl _) _).grown hgr (by simp) (fun g hg => ((Own.lit0 w 2 .i64).lt hg).1))
  clear hown hgr
  go_wp2_with fail
  go_ret
  exact ⟨_, rfl, HO, HBl⟩

def WmRel (w : World) (s : ByteArray) (zs : List Int) (V : Value) (v i : Value) (wr : World) : Prop :=
  ∃ (k : Nat) (A : Option Addr) (c : Nat) (Z : List Int), k ≤ sgN s ∧ i = .int .i64 k ∧ Hid (zs ++ wmP s k = Z) ∧ v = .slice A Z.length c ∧ Own wr w.heap.size 2 .i64 (.slice A Z.length c) Z ∧ OwnS wr w.heap.size V (sgN s) (segV (sgM s) (sgT s)) ∧ Below w.heap.size w wr

set_option maxRecDepth 100000 in
set_option maxHeartbeats 4000000 in
theorem specWm (A : Option Addr) (n c B : Nat) (zs : List Int) (s : ByteArray) (hs : s.size ≤ 1099511627776) (w : World) (hI : Ints .i64 w B A n zs) (hB : B ≤ w.heap.size) (hn : n ≤ 1048576) :
    Calls Try.prog 117 #[.slice A n c, .string s] w (NewInts2 2 .i64 (wmOf zs s) (wmCode zs s) w) := by
  have hl := hide hI.len
  have HI := hide hI
  have hn : n ≤ 1099511627776 := by omega
  clear hI
  rcases hb : isBits zs with _ | _
  · have HB := hide hb
    obtain ⟨h1, h2⟩ := wm_bad hb s
    rw [h1, h2]
    clear hb h1 h2
    go_enter Try.func117, Try.ntmps117
    go_wp2_with fail
    refine (specIsBits_no A n c B zs _ HI.out hn HB).mono ?_
    rintro e wz ⟨rfl, rfl⟩
    go_wp2_with fail
    go_ret2
    exact new2_nil' (Below.refl _ _)
  have HB := hide hb
  have hz8 : n ≤ 8192 := by have := isBits_len hb; rw [hl.out] at this; exact this
  have HBL := hide (specBl s hs)
  by_cases h4 : s.size ≤ 400
  · rw [bl_of h4, show lbCode s = 0 by rw [lbCode, if_pos h4]] at HBL
    have hlb := bsT_l s h4
    have HALL := hide (wmP_all s)
    have HLE := hide (wmP_len s)
    have HVV := hide (fun k => sg_valid s (k := k))
    have HSB := hide (specBest s h4)
    obtain ⟨L, hL⟩ : ∃ L, (bsT s 0).l = L := ⟨_, rfl⟩
    rw [hL] at HBL hlb HALL HLE
    have hw1 : IntKind.i64.wrap ((n : Int) + (L : Int)) = ((n + L : Nat) : Int) := by rw [IntWalk.i64_in _ ⟨by omega, by omega⟩]; omega
    by_cases hbig : 8192 < n + L
    · obtain ⟨h1, h2⟩ := wm_long hb h4 (by rw [hL, hl.out]; exact hbig)
      rw [h1, h2]
      obtain ⟨nL, hnL⟩ : ∃ nL, n + L = nL := ⟨_, rfl⟩
      rw [hnL] at hw1 hbig
      have z1 : (8192 : Int) < (nL : Int) := by omega
      clear hb hL hnL h1 h2
      go_enter Try.func117, Try.ntmps117
      go_wp2_with fail
      refine (specIsBits_yes A n c B zs _ HI.out hn HB).mono ?_
      rintro e wz ⟨rfl, rfl⟩
      go_wp2_with fail
      refine (HBL.out _).mono ?_
      rintro e w1 ⟨rfl, hb1⟩
      have HB1 := hide hb1
      clear hb1
      go_wp2_with fail
      go_ret2
      exact new2_nil' HB1.out
    · obtain ⟨h1, h2⟩ := wm_ok hb h4 (by rw [hL, hl.out]; omega)
      rw [h1, h2]
      obtain ⟨nL, hnL⟩ : ∃ nL, n + L = nL := ⟨_, rfl⟩
      have HNL := hide hnL
      rw [hnL] at hw1 hbig
      have z1 : ¬ (8192 : Int) < (nL : Int) := by omega
      clear hb hL hnL h1 h2
      go_enter Try.func117, Try.ntmps117
      go_wp2_with fail
      refine (specIsBits_yes A n c B zs _ HI.out hn HB).mono ?_
      rintro e wz ⟨rfl, rfl⟩
      go_wp2_with fail
      refine (HBL.out _).mono ?_
      rintro e w1 ⟨rfl, hb1⟩
      have HB1 := hide hb1
      clear hb1
      go_wp2_with fail
      refine (ownListW A n c B zs w1 (HI.out.below (HB1.out.mono hB)) (Nat.le_trans hB HB1.out.size) hn).mono ?_
      rintro e w2 ⟨v2, rfl, ho2, hb2⟩
      have HO2 := hide (ho2.low HB1.out.size)
      have HB2 := hide (HB1.out.trans (hb2.mono HB1.out.size))
      clear ho2 hb2
      obtain ⟨A2, c2, rfl, hc2⟩ := HO2.out.form
      go_wp2_with fail
      refine (HSB.out w2).mono ?_
      rintro e w3 ⟨A3, c3, rfl, hc3, hc3', ho3, hb3⟩
      have HS3 := hide (ho3.low HB2.out.size)
      have HO3 := hide (HO2.out.below hb3 (Nat.le_refl _))
      have HB3 := hide (HB2.out.trans (hb3.mono HB2.out.size))
      clear ho3 hb3 HO2 HSB HBL
      go_wp2_with fail
      go_loopw [8, 10] (fun v i wr => WmRel w s zs (.slice A3 (sgN s) c3) v i wr) (fun _ i _ => sgN s - (intOf i).toNat)
      case atStart => exact ⟨0, A2, c2, zs, Nat.zero_le _, rfl, by simp [Hid, wmP], rfl, HO3.out, HS3.out, HB3.out⟩
      case round =>
        clear HO3 HS3 HB3
        obtain ⟨k, A4, c4, Z, hk, rfl, hZ, hv4, ho, hsg, hb⟩ := hrel
        obtain ⟨v, hvv⟩ : ∃ v, v = u8 := ⟨_, rfl⟩
        rw [← hvv] at hv4
        subst hvv
        subst hv4
        have HZ := hZ
        have HO := hide ho
        have HSG := hide hsg
        have HBr := hide hb
        clear hZ ho hsg hb
        by_cases hlt : k < sgN s
        · obtain ⟨b, off, rfl, hbb, hc⟩ := HSG.out.segs (by omega)
          obtain ⟨e0, e1⟩ := hc k hlt
          have hv := HVV.out k hlt
          have h5 := HLE.out k hk
          have h6 : Z.length = n + (wmP s k).length := by rw [← HZ.out, List.length_append, hl.out]
          have HZ8 := hide (show Z.length ≤ 8192 by rw [h6]; have := HNL.out; omega)
          have HZN := hide (show zs ++ wmP s (k + 1) = Z ++ segBits (sgM s k) (bytesI (sgT s k)) by rw [wmP, ← List.append_assoc, HZ.out])
          have HN := hide (show sgN s ≤ 400 from Nat.le_trans (sgN_le s) h4)
          have hN := HN.out
          obtain ⟨m, hm⟩ : ∃ m, sgM s k = m := ⟨_, rfl⟩
          obtain ⟨t, ht⟩ : ∃ t, sgT s k = t := ⟨_, rfl⟩
          rw [hm] at e0 hv HZN
          rw [ht] at e1 hv HZN
          have HV := hide hv
          clear hm ht hc hv h5 h6
          go_wp2_with fail
          refine (specWrite A4 Z.length c4 wr.heap.size Z m t wr HO.out.ints (Nat.le_refl _) HZ8.out HV.out).mono ?_
          rintro e w5 ⟨v5, rfl, ho5, hb5⟩
          obtain ⟨A5, c5, rfl, hc5⟩ := ho5.form
          have HO5 := hide (ho5.low HBr.out.size)
          have HS5 := hide (HSG.out.next hb5)
          have HB5 := hide (HBr.out.trans (hb5.mono HBr.out.size))
          clear ho5 hb5 e0 e1
          go_wp2_with fail
          go_roundw
          case rel => exact ⟨k + 1, A5, c5, _, hlt, by go_num, HZN.out, by rw [List.length_append], HO5.out, HS5.out, HB5.out⟩
          case measure => simp [intOf]; omega
        · obtain rfl : k = sgN s := by omega
          have HF := hide (show NewInts2 2 .i64 (zs ++ wmP s (sgN s)) 0 w (.returned (.tuple #[.slice A4 Z.length c4, .int .i64 0])) wr by rw [HZ.out]; exact new2_of HO.out HBr.out (Nat.le_refl _))
          have hN : sgN s ≤ 400 := Nat.le_trans (sgN_le s) h4
          go_wp2_with fail
          go_ret2
          exact HF.out
  · rw [show lbCode s = 3 by rw [lbCode, if_neg h4]] at HBL
    obtain ⟨h1, h2⟩ := wm_big hb h4
    rw [h1, h2]
    clear hb h1 h2
    go_enter Try.func117, Try.ntmps117
    go_wp2_with fail
    refine (specIsBits_yes A n c B zs _ HI.out hn HB).mono ?_
    rintro e wz ⟨rfl, rfl⟩
    go_wp2_with fail
    refine (HBL.out _).mono ?_
    rintro e w1 ⟨rfl, hb1⟩
    have HB1 := hide hb1
    clear hb1
    go_wp2_with fail
    go_ret2
    exact new2_nil' HB1.out
end Go.Proofs.Ythmpfnbcodolcaa

namespace Go.Proofs.Ythmpfnbcodolcaa
open Go Go.RowKit
set_option linter.unusedSimpArgs false
set_option linter.unusedVariables false

theorem dgN_validP {m : Int} (hm : 1 ≤ m ∧ m ≤ 4) (v : Nat) : ∀ t, ∀ x ∈ dgN (gbase m) m v t, 0 ≤ cval m x := by
  intro t
  induction t with
  | zero => intro x hx; cases hx
  | succ t ih =>
    intro x hx
    rw [dgN] at hx
    rcases List.mem_cons.1 hx with rfl | h
    · rw [cval_chr hm (Nat.mod_lt _ (gbase_pos m))]; omega
    · exact ih x h
theorem rdT_validP {zs : List Int} {a n : Nat} {m : Int} (hm : 1 ≤ m ∧ m ≤ 4) : ∀ j, ∀ x ∈ rdT zs a m n j, 0 ≤ cval m x := by
  intro j
  induction j with
  | zero => intro x hx; cases hx
  | succ j ih =>
    intro x hx
    rw [rdT] at hx
    rcases List.mem_append.1 hx with h | h
    · exact ih x h
    · exact dgN_validP hm _ _ x h
theorem strOf_dataP (ns : List Int) : (strOf ns).data.toList = ns.map (fun n => UInt8.ofNat n.toNat) := by
  have h : ∀ (l : List Int) (b : ByteArray), (l.foldl (fun r n => r.push (UInt8.ofNat n.toNat)) b).data.toList = b.data.toList ++ l.map (fun n => UInt8.ofNat n.toNat) := by
    intro l
    induction l with
    | nil => intro b; simp
    | cons a l ih => intro b; rw [List.foldl_cons, ih]; simp
  unfold strOf; rw [h]; simp

theorem bytesI_strOfP {ns : List Int} (h : ∀ x ∈ ns, 0 ≤ x ∧ x ≤ 255) : bytesI (strOf ns) = ns := by
  unfold bytesI
  rw [strOf_dataP, List.map_map]
  conv => rhs; rw [← List.map_id ns]
  apply List.map_congr_left
  intro x hx
  have := h x hx
  simp only [Function.comp, id]
  rw [UInt8.toNat_ofNat_of_lt' (show x.toNat < UInt8.size by show x.toNat < 256; omega)]
  omega
/-- What was read is a segment. -/
theorem rd_seg {zs : List Int} {p : Nat} (hbt : ∀ x ∈ zs, x = 0 ∨ x = 1) (h : rdB zs p = true) : segB (rdM zs p) (bytesI (rdS zs p)) = true := by
  obtain ⟨h1, h2, h3, _⟩ := rd_nums hbt h
  have hs1 := (sg_step (k := 0) (zs := zs) (p := p))
  have hr : RdIs zs p := by
    by_cases q : RdIs zs p
    · exact q
    · rw [(rd_no q).1] at h; cases h
  obtain ⟨_, g2, g3, _⟩ := rd_yes hr
  have hq := hr
  obtain ⟨_, q2, q3, q4, _, _⟩ := hq
  have hmm : 1 ≤ rdM0 zs p ∧ rdM0 zs p ≤ 4 := ⟨q2, q3⟩
  have hbs := bytesI_strOfP (fun x hx => rdT_byte (zs := zs) (a := p + 11) hmm (n := rdN0 zs p) (gct (gsz (rdM0 zs p)) (rdN0 zs p)) x hx)
  have hgn : rdN0 zs p ≤ gct (gsz (rdM0 zs p)) (rdN0 zs p) * gsz (rdM0 zs p) := by
    rcases Nat.lt_or_ge (gct (gsz (rdM0 zs p)) (rdN0 zs p) * gsz (rdM0 zs p)) (rdN0 zs p) with h | h
    · have := (gct_lt (gsz_pos (rdM0 zs p))).2 h; omega
    · exact h
  have hl : (rdS zs p).size = rdN0 zs p := by rw [g3, strOf_size, rdT_len _ _ _ _ _ (Nat.le_refl _)]; omega
  rw [g2, seg_is hmm (by rw [bytesI_len, hl]; rw [hl] at h2; omega)]
  unfold allV
  rw [List.all_eq_true]
  intro x hx
  rw [g3, hbs] at hx
  exact decide_eq_true (rdT_validP hmm _ x hx)
theorem jn_stot (zs : List Int) : ∀ k, (jn (spT zs) k).size = stot zs k := by
  intro k
  induction k with
  | zero => rfl
  | succ k ih => rw [jn_size, ih, stot]
theorem stot_mono (zs : List Int) {j k : Nat} (h : j ≤ k) : stot zs j ≤ stot zs k := by
  induction k with
  | zero => obtain rfl : j = 0 := by omega
            exact Nat.le_refl _
  | succ k ih =>
    by_cases e : j = k + 1
    · subst e; exact Nat.le_refl _
    · have := ih (by omega)
      rw [stot]; omega
/-- The text and the code of DecodePayload for a valid field. -/
noncomputable def dpS (q : Nat) (zs : List Int) : ByteArray := if pgK q zs = 0 then jn (pgT q zs) (pgN q zs) else ⟨#[]⟩
theorem dp_js (q : Nat) (zs : List Int) : (∀ j, j ≤ pgN q zs → (jn (pgT q zs) j).size ≤ 400) ∧ (∀ j, j < pgN q zs → (pgT q zs j).size ≤ 255) ∧ jsCode (pgM q zs) (pgT q zs) (pgN q zs) = 0 := by
  have hbt := ebR_bit q zs
  obtain ⟨f1, f2, f3⟩ := sgF_le hbt
  have hn : pgN q zs = (sgF (ebR q zs)).1 ∨ pgN q zs = 0 := by unfold pgN; split <;> simp
  have hle : pgN q zs ≤ (sgF (ebR q zs)).1 := by omega
  have hsz : ∀ j, j ≤ pgN q zs → (jn (pgT q zs) j).size ≤ 400 := fun j hj => by
    show (jn (spT (ebR q zs)) j).size ≤ 400
    rw [jn_stot]
    have := stot_mono (ebR q zs) (show j ≤ (sgF (ebR q zs)).1 by omega)
    omega
  have hrd : ∀ j, j < pgN q zs → rdB (ebR q zs) (spos (ebR q zs) j) = true := fun j hj => f3 j (by omega)
  refine ⟨hsz, fun j hj => (rd_nums hbt (hrd j hj)).2.1, ?_⟩
  have hal : slAll (pgM q zs) (pgT q zs) (pgN q zs) := fun j hj => rd_seg hbt (hrd j hj)
  exact (js_ok (sl_ok (by have := pgN_le q zs; omega) hal).1 (by have := hsz _ (Nat.le_refl _); omega)).1
def L1Rel (w : World) (n : Nat) (T : Nat → ByteArray) (t i : Value) (wr : World) : Prop :=
  ∃ (k : Nat) (q : ByteArray), k ≤ n ∧ i = .int .i64 k ∧ t = .string q ∧ Hid (jn T k = q) ∧ Below w.heap.size w wr

set_option maxRecDepth 100000 in
set_option maxHeartbeats 1000000 in
theorem specL11J (A : Option Addr) (n c B : Nat) (M : Nat → Int) (T : Nat → ByteArray) (w : World) (hI : Segs w B A n M T) (hB : B ≤ w.heap.size) (hn : n ≤ 400) (hJ : ∀ j, j ≤ n → (jn T j).size ≤ 400) (hT : ∀ j, j < n → (T j).size ≤ 255) :
    Calls Try.prog 60 #[.slice A n c] w (Gives (.string (jn T n)) w) := by
  have HI := hide hI
  have HLE := hide hJ
  have HT := hide hT
  clear hI hJ hT
  go_enter Try.func60, Try.ntmps60
  go_wp2_with fail
  go_loopw [3, 4] (fun t i wr => L1Rel w n T t i wr) (fun _ i _ => n - (intOf i).toNat)
  case atStart => exact ⟨0, ⟨#[]⟩, Nat.zero_le _, rfl, rfl, rfl, Below.refl _ _⟩
  case round =>
    obtain ⟨k, q, hk, rfl, rfl, hj, hb⟩ := hrel
    have HJ := hj
    have HB := hide hb
    clear hj hb
    have hqs : q.size ≤ 400 := by have := HLE.out k hk; rw [HJ.out] at this; omega
    by_cases hlt : k < n
    · obtain ⟨b, off, rfl, hbb, hc⟩ := HI.out (by omega)
      have e1 : wr.cell? ⟨b, off + k * 2 + 1, none⟩ = some (.string (T k)) := (HB.out.cell (p := ⟨b, off + k * 2 + 1, none⟩) (by show b < _; omega)).trans (hc k hlt).2
      have hs := HT.out k hlt
      have HJ1 := hide (show jn T (k + 1) = q ++ T k by rw [jn, HJ.out])
      obtain ⟨s, hse⟩ : ∃ s, T k = s := ⟨_, rfl⟩
      rw [hse] at e1 hs HJ1
      clear hse hc
      go_wp2_with fail
      go_roundw
      case rel => exact ⟨k + 1, q ++ s, by omega, by go_num, rfl, HJ1, HB.out⟩
      case measure => simp [intOf]; omega
    · obtain rfl : k = n := by omega
      go_wp2_with fail
      go_ret
      refine ⟨?_, HB.out⟩
      rw [HJ.out]; rfl
-- MAIN
theorem js_out {M : Nat → Int} {T : Nat → ByteArray} {n : Nat} (h : jsCode M T n = 0) : jsOf M T n = jn T n := by unfold jsOf; rw [if_pos h]

set_option maxRecDepth 100000 in
set_option maxHeartbeats 1000000 in
theorem specDp {p k g : Int} {q : Nat} {mul : Nat → Nat → Nat} (hb : fieldB p k g = true) (hK : Kd p k g q mul) (A : Option Addr) (n c B : Nat) (zs : List Int) (w : World) (hI : Ints .i64 w B A n zs) (hB : B ≤ w.heap.size) (hn : n ≤ 1048576) :
    Calls Try.prog 25 #[.agg #[.int .i64 p, .int .i64 k, .int .i64 g], .slice A n c] w (GivSI (dpS q zs) (pgK q zs) w) := by
  have HX := hide (Box.start w 38 p k g)
  obtain ⟨c0, c1, c2⟩ := HX.out.cells
  have HPG := hide (specPgs hb hK A n c B zs _ ((hI.below (HX.out.2.mono hB)).more (Nat.le_refl _)) (Nat.le_trans hB HX.out.2.size) hn)
  obtain ⟨d1, d2, d3⟩ := dp_js q zs
  have hnn := pgN_le q zs
  have HC := hide (show pgK q zs ≠ 0 → dpS q zs = ⟨#[]⟩ from fun h => by unfold dpS; rw [if_neg h])
  have HY := hide (show pgK q zs = 0 → dpS q zs = jn (pgT q zs) (pgN q zs) from fun h => by unfold dpS; rw [if_pos h])
  have HJS := hide (js_out d3)
  obtain ⟨m, hm⟩ : ∃ m, pgN q zs = m := ⟨_, rfl⟩
  obtain ⟨T, hT⟩ : ∃ T, pgT q zs = T := ⟨_, rfl⟩
  obtain ⟨M, hM⟩ : ∃ M, pgM q zs = M := ⟨_, rfl⟩
  obtain ⟨cd, hcd⟩ : ∃ cd, pgK q zs = cd := ⟨_, rfl⟩
  simp only [hm, hT, hM, hcd] at HPG HC HY HJS d1 d2 d3 hnn
  rw [hcd]
  have D1 := hide d1
  have D2 := hide d2
  have D3 := hide d3
  clear hI hm hT hM hcd d1 d2 d3
  by_cases h0 : cd = 0
  · subst h0
    rw [HY.out rfl]
    go_enter Try.func25, Try.ntmps25
    go_wp2_with fail
    refine HPG.out.mono ?_
    rintro e w1 ⟨A1, m1, rfl, hm1, hm1', ho1, hb1⟩
    have HX1 := hide (HX.out.next hb1)
    have HO1 := hide ho1
    clear hb1 ho1
    go_wp2_with fail
    refine (specL11J A1 m m1 _ M T _ HO1.out.segs (Nat.le_refl _) hnn D1.out D2.out).mono ?_
    rintro e w2 ⟨rfl, hb2⟩
    have HX2 := hide (HX1.out.next hb2)
    clear hb2
    go_wp2_with fail
    go_ret2
    exact ⟨rfl, HX2.out.2⟩
  · rw [HC.out h0]
    go_enter Try.func25, Try.ntmps25
    go_wp2_with fail
    refine HPG.out.mono ?_
    rintro e w1 ⟨A1, m1, rfl, hm1, hm1', ho1, hb1⟩
    have HX1 := hide (HX.out.next hb1)
    clear hb1 ho1
    go_wp2_with fail
    go_ret2
    exact ⟨rfl, HX1.out.2⟩
set_option maxRecDepth 100000 in
set_option maxHeartbeats 1000000 in
theorem dp_noS {p k g : Int} (hb : fieldB p k g = false) (A : Option Addr) (n c : Nat) (w : World) :
    Calls Try.prog 25 #[.agg #[.int .i64 p, .int .i64 k, .int .i64 g], .slice A n c] w (GivSI ⟨#[]⟩ 1 w) := by
  have HX := hide (Box.start w 38 p k g)
  obtain ⟨c0, c1, c2⟩ := HX.out.cells
  have HPG := hide (fun w => pgs_noS hb A n c (fun _ => 0) (fun _ => ⟨#[]⟩) w)
  go_enter Try.func25, Try.ntmps25
  go_wp2_with fail
  refine (HPG.out _).mono ?_
  rintro e w1 ⟨A1, m1, rfl, hm1, hm1', ho1, hb1⟩
  have HX1 := hide (HX.out.next hb1)
  clear hb1 ho1
  go_wp2_with fail
  go_ret2
  exact ⟨rfl, HX1.out.2⟩
set_option maxRecDepth 100000 in
set_option maxHeartbeats 1000000 in
theorem implDp {p k g : Int} {q : Nat} {mul : Nat → Nat → Nat} (hb : fieldB p k g = true) (hK : Kd p k g q mul) (A : Option Addr) (n c B : Nat) (zs : List Int) (w : World) (hI : Ints .i64 w B A n zs) (hB : B ≤ w.heap.size) (hn : n ≤ 1048576) :
    Calls Try.prog 24 #[.agg #[.int .i64 p, .int .i64 k, .int .i64 g], .slice A n c] w (GivSI (dpS q zs) (pgK q zs) w) := by
  have HX := hide (Box.start w 38 p k g)
  obtain ⟨c0, c1, c2⟩ := HX.out.cells
  have HPG := hide (implPgs hb hK A n c B zs _ ((hI.below (HX.out.2.mono hB)).more (Nat.le_refl _)) (Nat.le_trans hB HX.out.2.size) hn)
  obtain ⟨d1, d2, d3⟩ := dp_js q zs
  have hnn := pgN_le q zs
  have HC := hide (show pgK q zs ≠ 0 → dpS q zs = ⟨#[]⟩ from fun h => by unfold dpS; rw [if_neg h])
  have HY := hide (show pgK q zs = 0 → dpS q zs = jn (pgT q zs) (pgN q zs) from fun h => by unfold dpS; rw [if_pos h])
  have HJS := hide (js_out d3)
  obtain ⟨m, hm⟩ : ∃ m, pgN q zs = m := ⟨_, rfl⟩
  obtain ⟨T, hT⟩ : ∃ T, pgT q zs = T := ⟨_, rfl⟩
  obtain ⟨M, hM⟩ : ∃ M, pgM q zs = M := ⟨_, rfl⟩
  obtain ⟨cd, hcd⟩ : ∃ cd, pgK q zs = cd := ⟨_, rfl⟩
  simp only [hm, hT, hM, hcd] at HPG HC HY HJS d1 d2 d3 hnn
  rw [hcd]
  have D1 := hide d1
  have D2 := hide d2
  have D3 := hide d3
  clear hI hm hT hM hcd d1 d2 d3
  by_cases h0 : cd = 0
  · subst h0
    rw [HY.out rfl]
    go_enter Try.func24, Try.ntmps24
    go_wp2_with fail
    refine HPG.out.mono ?_
    rintro e w1 ⟨A1, m1, rfl, hm1, hm1', ho1, hb1⟩
    have HX1 := hide (HX.out.next hb1)
    have HO1 := hide ho1
    clear hb1 ho1
    go_wp2_with fail
    have HJ := hide (implJs A1 m m1 _ M T w1 HO1.out.segs (Nat.le_refl _) (by omega) (fun j hj => by have := D2.out j hj; omega))
    rw [HJS.out, D3.out] at HJ
    refine HJ.out.mono ?_
    rintro e w2 ⟨rfl, hb2⟩
    have HX2 := hide (HX1.out.next hb2)
    clear hb2
    go_wp2_with fail
    go_ret2
    exact ⟨rfl, HX2.out.2⟩
  · rw [HC.out h0]
    go_enter Try.func24, Try.ntmps24
    go_wp2_with fail
    refine HPG.out.mono ?_
    rintro e w1 ⟨A1, m1, rfl, hm1, hm1', ho1, hb1⟩
    have HX1 := hide (HX.out.next hb1)
    clear hb1 ho1
    go_wp2_with fail
    go_ret2
    exact ⟨rfl, HX1.out.2⟩
set_option maxRecDepth 100000 in
set_option maxHeartbeats 1000000 in
theorem dp_noI {p k g : Int} (hb : fieldB p k g = false) (A : Option Addr) (n c : Nat) (w : World) :
    Calls Try.prog 24 #[.agg #[.int .i64 p, .int .i64 k, .int .i64 g], .slice A n c] w (GivSI ⟨#[]⟩ 1 w) := by
  have HX := hide (Box.start w 38 p k g)
  obtain ⟨c0, c1, c2⟩ := HX.out.cells
  have HPG := hide (fun w => pgs_noI hb A n c (fun _ => 0) (fun _ => ⟨#[]⟩) w)
  go_enter Try.func24, Try.ntmps24
  go_wp2_with fail
  refine (HPG.out _).mono ?_
  rintro e w1 ⟨A1, m1, rfl, hm1, hm1', ho1, hb1⟩
  have HX1 := hide (HX.out.next hb1)
  clear hb1 ho1
  go_wp2_with fail
  go_ret2
  exact ⟨rfl, HX1.out.2⟩

/-- DecodePayload, of both. -/
theorem dp_both (p k g : Int) (z : List Int) (hz : z.length ≤ 1048576) : ∃ (c : Int) (s : ByteArray),
    (∀ (A : Option Addr) (m c0 B : Nat) (w : World), Ints .i64 w B A m z → B ≤ w.heap.size → Calls Try.prog 25 #[.agg #[.int .i64 p, .int .i64 k, .int .i64 g], .slice A m c0] w (GivSI s c w)) ∧
    (∀ (A : Option Addr) (m c0 B : Nat) (w : World), Ints .i64 w B A m z → B ≤ w.heap.size → Calls Try.prog 24 #[.agg #[.int .i64 p, .int .i64 k, .int .i64 g], .slice A m c0] w (GivSI s c w)) := by
  rcases hb : fieldB p k g with _ | _
  · exact ⟨1, ⟨#[]⟩, fun A n c0 w _ _ _ => dp_noS hb A n c0 _, fun A n c0 w _ _ _ => dp_noI hb A n c0 _⟩
  · obtain ⟨q, mul, γ, hK, _⟩ := fieldB_open hb
    exact ⟨_, _, fun A n c0 B w hI hB => specDp hb hK A n c0 B z w hI hB (by rw [← hI.len]; exact hz), fun A n c0 B w hI hB => implDp hb hK A n c0 B z w hI hB (by rw [← hI.len]; exact hz)⟩
end Go.Proofs.Ythmpfnbcodolcaa

namespace Go.Proofs.Ythmpfnbcodolcaa
open Go Go.RowKit
set_option linter.unusedSimpArgs false
set_option linter.unusedVariables false

/-- The filling; a list with the bits of the end; a list filled up. -/
def filB (j : Nat) : Int := [1, 1, 0, 1, 0, 0].getD (j % 6) 0
def filA (zs : List Int) (t : Nat) : List Int := zs ++ List.replicate (min 3 (t - zs.length)) 0
def filL (zs : List Int) (t : Nat) : List Int := filA zs t ++ (List.range (t - (filA zs t).length)).map filB
theorem filB_bit (j : Nat) : filB j = 0 ∨ filB j = 1 := by
  unfold filB
  have : j % 6 < 6 := Nat.mod_lt _ (by decide)
  rcases (show j % 6 = 0 ∨ j % 6 = 1 ∨ j % 6 = 2 ∨ j % 6 = 3 ∨ j % 6 = 4 ∨ j % 6 = 5 by omega) with h | h | h | h | h | h <;> rw [h] <;> simp
theorem filL_bit {zs : List Int} (hb : ∀ x ∈ zs, x = 0 ∨ x = 1) (t : Nat) : ∀ x ∈ filL zs t, x = 0 ∨ x = 1 := by
  intro x hx
  unfold filL filA at hx
  rcases List.mem_append.1 hx with h | h
  · rcases List.mem_append.1 h with h | h
    · exact hb x h
    · exact .inl (List.eq_of_mem_replicate h)
  · obtain ⟨j, _, rfl⟩ := List.mem_map.1 h
    exact filB_bit j
theorem filA_len {zs : List Int} {t : Nat} (h : zs.length ≤ t) : (filA zs t).length ≤ t := by
  unfold filA; rw [List.length_append, List.length_replicate]; omega
theorem filL_len {zs : List Int} {t : Nat} (h : zs.length ≤ t) : (filL zs t).length = t := by
  have := filA_len h
  unfold filL; rw [List.length_append, List.length_map, List.length_range]; omega
/-- The elements of a list of bits: the first ones. -/
def elmP (W : Nat) (bs : List Int) (j : Nat) : List Int := (List.range j).map fun i => numVal ((bs.drop (i * W)).take W)
theorem elmP_succ (W : Nat) (bs : List Int) (j : Nat) : elmP W bs (j + 1) = elmP W bs j ++ [numVal ((bs.drop (j * W)).take W)] := by
  unfold elmP; rw [List.range_succ, List.map_append]; rfl
theorem elmP_len (W : Nat) (bs : List Int) (j : Nat) : (elmP W bs j).length = j := by simp [elmP]
def F1Rel (w : World) (zs : List Int) (t : Nat) (v i : Value) (wr : World) : Prop :=
  ∃ j Pn : Nat, j ≤ 3 ∧ Hid (zs.length + j = Pn) ∧ Pn ≤ t ∧ i = .int .i64 j ∧ Own wr w.heap.size 2 .i64 v (zs ++ List.replicate j 0) ∧ Below w.heap.size w wr
def F2Rel (w : World) (ys : List Int) (t : Nat) (v i : Value) (wr : World) : Prop :=
  ∃ j Pn : Nat, Hid (ys.length + j = Pn) ∧ Pn ≤ t ∧ i = .int .i64 j ∧ Own wr w.heap.size 2 .i64 v (ys ++ (List.range j).map filB) ∧ Below w.heap.size w wr
def E1Rel (w : World) (W m : Nat) (bs : List Int) (v i : Value) (wr : World) : Prop :=
  ∃ j a : Nat, j ≤ m ∧ Hid (j * W = a) ∧ a ≤ bs.length ∧ i = .int .i64 a ∧ Own wr w.heap.size 2 .i64 v (elmP W bs j) ∧ Below w.heap.size w wr
theorem f_done {zs : List Int} {t j : Nat} (hj : j ≤ 3) (hle : zs.length + j ≤ t) (h : ¬ (j < 3 ∧ zs.length + j < t)) : zs ++ List.replicate j 0 = filA zs t := by
  unfold filA; rw [show min 3 (t - zs.length) = j by omega]

set_option maxRecDepth 100000 in
set_option maxHeartbeats 4000000 in
theorem specFill (A : Option Addr) (n c B : Nat) (zs : List Int) (t : Nat) (w : World) (hI : Ints .i64 w B A n zs) (hB : B ≤ w.heap.size) (ht : t ≤ 8192) (hn : n ≤ t) :
    Calls Try.prog 119 #[.slice A n c, .int .i64 t] w (Longer 2 .i64 w.heap.size (filL zs t) w) := by
  have HI := hide hI
  have hl := hide hI.len
  clear hI
  go_enter Try.func119, Try.ntmps119
  go_wp2_with fail
  refine (ownListW A n c B zs w HI.out hB (by omega)).mono ?_
  rintro e w1 ⟨v1, rfl, ho1, hb1⟩
  have HO1 := hide ho1
  have HB1 := hide hb1
  clear ho1 hb1
  go_wp2_with fail
  go_loopw [5, 6] (fun v i wr => F1Rel w zs t v i wr) (fun _ i _ => 3 - (intOf i).toNat)
  case atStart => exact ⟨0, n, by omega, by show Hid (zs.length + 0 = n); exact hide hl.out, hn, rfl, by simpa using HO1.out, HB1.out⟩
  case round =>
    clear HO1 HB1
    obtain ⟨j, Pn, hj, hp, hpt, rfl, ho, hb⟩ := hrel
    have HP := hp
    have HO := hide ho
    have HB := hide hb
    clear hp ho hb
    obtain ⟨v, rfl⟩ : ∃ v : Value, v = u5 := ⟨_, rfl⟩
    obtain ⟨A5, c5, hv, hc5⟩ := HO.out.form
    have hPl : (zs ++ List.replicate j 0).length = Pn := by rw [List.length_append, List.length_replicate]; exact HP.out
    rw [hPl] at hv
    subst hv
    clear hPl hc5
    have hbz : w.heap.size ≤ wr.heap.size := HB.out.size
    by_cases hlt : j < 3 ∧ Pn < t
    · obtain ⟨h1, h2⟩ := hlt
      have HL := hide (show ((zs ++ List.replicate j 0).length + 1) * 8 ≤ 140737488355328 by rw [List.length_append, List.length_replicate, HP.out]; omega)
      go_wp2_with (at_builtin; refine wpList_app1 wr rfl _ _ _ rfl elem64 w.heap.size (.slice A5 Pn c5) _ rfl HO.out 0 rfl HL.out hbz ?_; intro v' w' hown hgrow; have HO2 := hide hown; have HB2 := hide (HB.out.grown hgrow hbz (fun g hg => (HO.out.lt hg).1)); clear hown hgrow)
      refine ⟨⟨j + 1, Pn + 1, by omega, hide (by have := HP.out; omega), by omega, by go_num, by rw [List.replicate_succ', ← List.append_assoc]; exact HO2.out, HB2.out⟩, ?_⟩
      simp [intOf]; omega
    · have HD := hide (f_done (zs := zs) (t := t) hj (by rw [HP.out]; exact hpt) (by rw [HP.out]; exact hlt))
      have HOA := hide (show Own wr w.heap.size 2 .i64 (.slice A5 Pn c5) (filA zs t) by rw [← HD.out]; exact HO.out)
      have HFL := hide (show (filA zs t).length = Pn by rw [← HD.out, List.length_append, List.length_replicate]; exact HP.out)
      have HEX := hide (show filL zs t = filA zs t ++ (List.range (t - Pn)).map filB by unfold filL; rw [HFL.out])
      obtain ⟨ys, has⟩ : ∃ ys, filA zs t = ys := ⟨_, rfl⟩
      rw [has] at HOA HFL HEX
      have hgd : (decide ((j : Int) < 3) && decide ((Pn : Int) < (t : Int))) = false := by
        rcases (show ¬ j < 3 ∨ ¬ Pn < t by omega) with h | h
        · rw [decide_eq_false (by omega)]; rfl
        · rw [decide_eq_false (p := (Pn : Int) < t) (by omega), Bool.and_false]
      clear HD HO has
      rcases (show (¬ j < 3) ∨ (j < 3 ∧ ¬ Pn < t) by omega) with h1 | ⟨h1, h2⟩
      all_goals
        obtain ⟨wo, rfl⟩ : ∃ wo : World, wo = wr := ⟨_, rfl⟩
        go_wp2_with fail
        go_loopw [5, 7] (fun v i wr => F2Rel w ys t v i wr) (fun v _ _ => match v with | .slice _ m _ => t - m | _ => 0)
        case atStart => exact ⟨0, Pn, (by show Hid (ys.length + 0 = Pn); exact HFL.out), hpt, rfl, by simpa using HOA.out, HB.out⟩
        case round =>
          obtain ⟨q, Qn, hq, hqt, rfl, ho, hb⟩ := hrel
          have HQ := hq
          have HO := hide ho
          have HBq := hide hb
          clear hq ho hb
          obtain ⟨A6, c6, hv, hc6⟩ := HO.out.form
          have hPl : (ys ++ (List.range q).map filB).length = Qn := by rw [List.length_append, List.length_map, List.length_range]; exact HQ.out
          rw [hPl] at hv
          subst hv
          clear hPl hc6
          have hbz2 : w.heap.size ≤ wr.heap.size := HBq.out.size
          have hqb : q ≤ 8192 := by have := HQ.out; omega
          by_cases hlt : Qn < t
          · obtain ⟨r, hr⟩ : ∃ r, q % 6 = r := ⟨_, rfl⟩
            have hr6 : r < 6 := by rw [← hr]; exact Nat.mod_lt _ (by decide)
            have htm : (q : Int).tmod 6 = (r : Int) := by rw [Int.tmod_eq_emod_of_nonneg (by omega)]; omega
            obtain ⟨y, hy⟩ : ∃ y, filB q = y := ⟨_, rfl⟩
            have hcl : (wr.alloc (.cells #[.int .i64 1, .int .i64 1, .int .i64 0, .int .i64 1, .int .i64 0, .int .i64 0] 2)).cell? ⟨wr.heap.size, r, none⟩ = some (.int .i64 y) := by
              rw [World.cell?_alloc_at _ _ _ _ rfl, ← hy]
              unfold filB
              rw [hr]
              rcases (show r = 0 ∨ r = 1 ∨ r = 2 ∨ r = 3 ∨ r = 4 ∨ r = 5 by omega) with rfl | rfl | rfl | rfl | rfl | rfl <;> rfl
            have HY := hide (show (ys ++ (List.range (q + 1)).map filB) = (ys ++ (List.range q).map filB) ++ [y] by rw [List.range_succ, List.map_append, ← List.append_assoc, ← hy]; rfl)
            obtain ⟨wa, hwa⟩ : ∃ wa, wr.alloc (.cells #[.int .i64 1, .int .i64 1, .int .i64 0, .int .i64 1, .int .i64 0, .int .i64 0] 2) = wa := ⟨_, rfl⟩
            have HOa := hide (show Own wa w.heap.size 2 .i64 (.slice A6 Qn c6) _ by rw [← hwa]; exact HO.out.alloc _)
            have HBa := hide (show Below w.heap.size w wa by rw [← hwa]; exact HBq.out.alloc hbz2 _)
            have HL := hide (show ((ys ++ (List.range q).map filB).length + 1) * 8 ≤ 140737488355328 by rw [List.length_append, List.length_map, List.length_range, HQ.out]; omega)
            rw [hwa] at hcl
            clear hr hy
            go_wp2_with (at_builtin; refine wpList_app1 wa rfl _ _ _ rfl elem64 w.heap.size (.slice A6 Qn c6) _ rfl HOa.out y rfl HL.out HBa.out.size ?_; intro v' w' hown hgrow; have HO2 := hide hown; have HB2 := hide (HBa.out.grown hgrow HBa.out.size (fun g hg => (HOa.out.lt hg).1)); clear hown hgrow)
            obtain ⟨A7, c7, hv7, _⟩ := HO2.out.form
            refine ⟨⟨q + 1, Qn + 1, hide (by have := HQ.out; omega), by omega, by go_num, by rw [HY.out]; exact HO2.out, HB2.out⟩, ?_⟩
            rw [hv7, List.length_append, List.length_append, List.length_map, List.length_range, HQ.out]
            show t - (Qn + 1) < t - Qn
            omega
          · have HE := hide (show t - Pn = q by have := HQ.out; have := HFL.out; omega)
            go_wp2_with fail
            go_ret
            exact ⟨_, rfl, by rw [HEX.out, HE.out]; exact HO.out, HBq.out⟩

set_option maxRecDepth 100000 in
set_option maxHeartbeats 4000000 in
theorem specElm (A : Option Addr) (n c B W : Nat) (bs : List Int) (w : World) (hI : Ints .i64 w B A n bs) (hB : B ≤ w.heap.size) (hn : n ≤ 8192) (hW : 1 ≤ W) (hW9 : W ≤ 9) (hb : ∀ x ∈ bs, x = 0 ∨ x = 1) :
    Calls Try.prog 118 #[.int .i64 W, .slice A n c] w (Longer 2 .i64 w.heap.size (elmP W bs (n / W)) w) := by
  have HI := hide hI
  have hl := hide hI.len
  have HBT := hide hb
  obtain ⟨m, hm⟩ : ∃ m, n / W = m := ⟨_, rfl⟩
  have hmW : m * W ≤ n := by rw [← hm]; exact Nat.div_mul_le_self n W
  have hmW2 : n < (m + 1) * W := by rw [← hm, Nat.mul_comm]; exact Nat.lt_mul_div_succ n (by omega)
  have HM1 := hide hmW
  have HM2 := hide hmW2
  rw [hm]
  clear hI hb hm hmW hmW2
  have HO0 := hide (Own.lit0 w 2 .i64)
  have HB0 := hide ((Below.refl w.heap.size w).alloc (Nat.le_refl _) (.cells #[] 2))
  go_enter Try.func118, Try.ntmps118
  go_wp2_with fail
  go_loopw [5, 6] (fun v i wr => E1Rel w W m bs v i wr) (fun _ i _ => n + 1 - (intOf i).toNat)
  case atStart => exact ⟨0, 0, Nat.zero_le _, hide (Nat.zero_mul W), Nat.zero_le _, rfl, HO0.out, HB0.out⟩
  case round =>
    clear HO0 HB0
    obtain ⟨j, a, hj, ha, han, rfl, ho, hbl⟩ := hrel
    have HA := ha
    have HO := hide ho
    have HBq := hide hbl
    clear ha ho hbl
    rw [hl.out] at han
    obtain ⟨v, rfl⟩ : ∃ v : Value, v = u5 := ⟨_, rfl⟩
    obtain ⟨A5, c5, hv, hc5⟩ := HO.out.form
    rw [elmP_len] at hv
    subst hv
    clear hc5
    have hbz : w.heap.size ≤ wr.heap.size := HBq.out.size
    obtain ⟨a2, ha2⟩ : ∃ a2, a + W = a2 := ⟨_, rfl⟩
    have hwa : IntKind.i64.wrap ((a : Int) + (W : Int)) = (a2 : Int) := by rw [IntWalk.i64_in _ ⟨by omega, by omega⟩]; omega
    have HA2 := hide (show (j + 1) * W = a2 by rw [Nat.add_mul, Nat.one_mul, HA.out]; exact ha2)
    have hja : j ≤ a := by rw [← HA.out]; exact Nat.le_mul_of_pos_right j (by omega)
    by_cases hle : a2 ≤ n
    · have hjm : j < m := by
        rcases Nat.lt_or_ge j m with h | h
        · exact h
        · have h1 := Nat.mul_le_mul_right W (show m + 1 ≤ j + 1 by omega)
          have h2 := HM2.out
          have h3 := HA2.out
          omega
      obtain ⟨y, hy⟩ : ∃ y, numVal ((bs.drop a).take W) = y := ⟨_, rfl⟩
      have HN := hide (fun w' (hI' : Ints .i64 w' B A n bs) => show Calls Try.prog 92 #[.slice A n c, .int .i64 (a : Int), .int .i64 (W : Int)] w' (fun e w'' => e = .returned (.int .i64 y) ∧ w' = w'') by rw [← hy]; exact specNumber A n c B a W bs w' hI' (by omega) (by omega) (by omega) HBT.out)
      have HY := hide (show elmP W bs (j + 1) = elmP W bs j ++ [y] by rw [elmP_succ, HA.out, hy])
      have HL := hide (show ((elmP W bs j).length + 1) * 8 ≤ 140737488355328 by rw [elmP_len]; omega)
      clear hy
      go_wp2_with fail
      refine (HN.out _ (HI.out.below (HBq.out.mono hB))).mono ?_
      rintro e wa ⟨rfl, hwa⟩
      rw [← hwa]
      clear hwa
      go_wp2_with (at_builtin; refine wpList_app1 wr rfl _ _ _ rfl elem64 w.heap.size (.slice A5 j c5) _ rfl HO.out y rfl HL.out hbz ?_; intro v' w' hown hgrow; have HO2 := hide hown; have HB2 := hide (HBq.out.grown hgrow hbz (fun g hg => (HO.out.lt hg).1)); clear hown hgrow)
      refine ⟨⟨j + 1, a2, by omega, HA2, by rw [hl.out]; omega, rfl, by rw [HY.out]; exact HO2.out, HB2.out⟩, ?_⟩
      simp [intOf]; omega
    · have hE : j = m := by
        rcases Nat.lt_or_ge j m with h | h
        · have h1 := Nat.mul_le_mul_right W (show j + 1 ≤ m by omega)
          have h2 := HM1.out
          have h3 := HA2.out
          omega
        · omega
      subst hE
      go_wp2_with fail
      go_ret
      exact ⟨_, rfl, HO.out, HBq.out⟩
end Go.Proofs.Ythmpfnbcodolcaa

namespace Go.Proofs.Ythmpfnbcodolcaa
open Go Go.RowKit
set_option linter.unusedSimpArgs false
set_option linter.unusedVariables false

theorem sgb_bitP (m : Int) (bs : List Int) : ∀ x ∈ segBits m bs, x = 0 ∨ x = 1 := by
  intro x hx
  have hB : ∀ (v : Int) (d : Nat), x ∈ bitsOf v d → x = 0 ∨ x = 1 := fun v d h => by
    unfold bitsOf at h
    obtain ⟨j, _, rfl⟩ := List.mem_map.1 h
    omega
  unfold segBits headB txP at hx
  simp only [List.mem_append, List.mem_flatMap] at hx
  rcases hx with (h | h) | ⟨i, _, h⟩ <;> exact hB _ _ h
theorem wmP_bit (s : ByteArray) : ∀ k, ∀ x ∈ wmP s k, x = 0 ∨ x = 1 := by
  intro k
  induction k with
  | zero => intro x hx; cases hx
  | succ k ih =>
    intro x hx
    rw [wmP] at hx
    rcases List.mem_append.1 hx with h | h
    · exact ih x h
    · exact sgb_bitP _ _ x h
/-- The bits of a message alone, and the code. -/
def mgB (s : ByteArray) : List Int := wmOf [] s
def mgK (s : ByteArray) : Int := wmCode [] s
theorem mgB_bit (s : ByteArray) : ∀ x ∈ mgB s, x = 0 ∨ x = 1 := by
  intro x hx
  unfold mgB wmOf at hx
  split at hx
  · exact wmP_bit s _ x (by simpa using hx)
  · cases hx
theorem mgB_len (s : ByteArray) : (mgB s).length ≤ 1099511627776 := wmOf_len [] s
/-- The code of EncodePayload for a valid field of that width, and its elements. -/
def epK (W : Nat) (s : ByteArray) (cap : Int) : Int :=
  if inR cap 1 1500 = true then (if mgK s = 0 ∧ cap.toNat * W ≤ 8192 ∧ (mgB s).length ≤ cap.toNat * W then 0 else 3) else 2
def epR (W : Nat) (s : ByteArray) (cap : Int) : List Int := if epK W s cap = 0 then elmP W (filL (mgB s) (cap.toNat * W)) cap.toNat else []
theorem ep_bad {W : Nat} {s : ByteArray} {cap c : Int} (h : epK W s cap = c) (hc : c ≠ 0) {w w' : World} (hb : Below w.heap.size w w') : EbPost (epR W s cap) (epK W s cap) w (.returned (.tuple #[.slice none 0 0, .int .i64 c])) w' := by
  have hr : epR W s cap = [] := by unfold epR; rw [if_neg (by rw [h]; exact hc)]
  rw [hr, h]; exact eb_nil hb
theorem epR_len (W : Nat) (s : ByteArray) (cap : Int) : (epR W s cap).length ≤ 1500 ∧ (epK W s cap = 0 → 1 ≤ (epR W s cap).length) := by
  unfold epR
  split
  · rename_i h
    rw [elmP_len]
    unfold epK at h
    split at h
    · rename_i h2
      simp only [inR, decide_eq_true_eq] at h2
      exact ⟨by omega, fun _ => by omega⟩
    · omega
  · rename_i h
    exact ⟨by simp, fun q => absurd q h⟩

set_option maxRecDepth 100000 in
set_option maxHeartbeats 4000000 in
theorem specEp {p k g : Int} {q : Nat} {mul : Nat → Nat → Nat} (hb : fieldB p k g = true) (hK : Kd p k g q mul) (s : ByteArray) (cap : Int) (hs : s.size ≤ 1099511627776) (w : World) :
    Calls Try.prog 96 #[.agg #[.int .i64 p, .int .i64 k, .int .i64 g], .string s, .int .i64 cap] w (EbPost (epR (wdt q) s cap) (epK (wdt q) s cap) w) := by
  have HX := hide (Box.start w 38 p k g)
  obtain ⟨c0, c1, c2⟩ := HX.out.cells
  have HV := hide (show ∀ w, Calls Try.prog 66 #[.agg #[.int .i64 p, .int .i64 k, .int .i64 g]] w (Gives (.bool true) w) from fun w => by rw [← hb]; exact specIsField p k g w)
  have HW := hide (fun w => specWd hK w)
  have HCP := hide (fun w => specCap cap w)
  obtain ⟨hq3, hq⟩ := hK.big
  obtain ⟨hw1, hw9, _, _⟩ := wdt_is hq3 hq
  obtain ⟨W, hW⟩ : ∃ W, wdt q = W := ⟨_, rfl⟩
  rw [hW] at HW hw1 hw9
  rw [hW]
  have HWM := hide (fun w => show Calls Try.prog 117 #[.slice none 0 0, .string s] w (NewInts2 2 .i64 (mgB s) (mgK s) w) from specWm none 0 0 w.heap.size [] s hs w ⟨rfl, fun h => absurd h (Nat.lt_irrefl _)⟩ (Nat.le_refl _) (by omega))
  have HBIT := hide (mgB_bit s)
  have hbl := mgB_len s
  by_cases hcap : inR cap 1 1500 = true
  case neg =>
    have hcf : inR cap 1 1500 = false := by simpa using hcap
    rw [hcf] at HCP
    have HN := hide (fun w' (hb : Below w.heap.size w w') => ep_bad (W := W) (s := s) (cap := cap) (c := 2) (by unfold epK; rw [if_neg hcap]) (by decide) hb)
    clear hcf hcap hW
    go_enter Try.func96, Try.ntmps96
    go_wp2_with fail
    refine (HV.out _).mono ?_
    rintro e w1 ⟨rfl, hb1⟩
    have HX1 := hide (HX.out.next hb1)
    clear hb1 c0 c1 c2
    go_wp2_with fail
    refine (HCP.out _).mono ?_
    rintro e _ ⟨rfl, rfl⟩
    go_wp2_with fail
    go_ret2
    exact HN.out _ HX1.out.2
  have hcr := hcap
  simp only [inR, decide_eq_true_eq] at hcr
  obtain ⟨C, rfl⟩ : ∃ C : Nat, cap = C := ⟨cap.toNat, by omega⟩
  have HE := hide (show epK W s (C : Int) = if mgK s = 0 ∧ C * W ≤ 8192 ∧ (mgB s).length ≤ C * W then 0 else 3 by unfold epK; rw [if_pos hcap, Int.toNat_natCast])
  have HR := hide (show epK W s (C : Int) = 0 → epR W s (C : Int) = elmP W (filL (mgB s) (C * W)) C from fun h => by unfold epR; rw [if_pos h, Int.toNat_natCast])
  rw [hcap] at HCP
  obtain ⟨ms, hms⟩ : ∃ ms, mgB s = ms := ⟨_, rfl⟩
  obtain ⟨mk, hmk⟩ : ∃ mk, mgK s = mk := ⟨_, rfl⟩
  simp only [hms, hmk] at HE HR HWM HBIT hbl
  have hCW : C * W ≤ 13500 := Nat.le_trans (Nat.mul_le_mul (show C ≤ 1500 by omega) hw9) (by decide)
  have HDV := hide (show C * W / W = C from Nat.mul_div_cancel C (by omega))
  obtain ⟨cw, hcw⟩ : ∃ cw, C * W = cw := ⟨_, rfl⟩
  have hmw : IntKind.i64.wrap ((C : Int) * (W : Int)) = (cw : Int) := by rw [← Int.natCast_mul, hcw]; exact IntWalk.i64_in _ ⟨by omega, by omega⟩
  rw [hcw] at HE HR hCW HDV
  clear hms hmk hcw hcap hW
  go_enter Try.func96, Try.ntmps96
  go_wp2_with fail
  refine (HV.out _).mono ?_
  rintro e w1 ⟨rfl, hb1⟩
  have HX1 := hide (HX.out.next hb1)
  clear hb1 c0 c1 c2
  obtain ⟨c0, c1, c2⟩ := HX1.out.cells
  go_wp2_with fail
  refine (HCP.out _).mono ?_
  rintro e _ ⟨rfl, rfl⟩
  go_wp2_with fail
  refine (HW.out _).mono ?_
  rintro e w3 ⟨rfl, hb3⟩
  have HX3 := hide (HX1.out.next hb3)
  clear hb3 c0 c1 c2
  go_wp2_with fail
  refine (HWM.out _).mono ?_
  rintro e w4 ⟨A4, c4, rfl, hc4, ho4, hb4⟩
  have HX4 := hide (HX3.out.next hb4)
  have HO4 := hide ho4
  clear hb4 ho4 hc4
  have hi4 := HO4.out.ints
  obtain ⟨mn, hmn⟩ : ∃ mn, ms.length = mn := ⟨_, rfl⟩
  rw [hmn] at hbl HE hi4 ⊢
  have HI4 := hide hi4
  clear HO4 hmn hi4
  by_cases hk : mk = 0
  case neg =>
    have HN := hide (fun w' (hb : Below w.heap.size w w') => ep_bad (W := W) (s := s) (cap := (C : Int)) (c := 3) (by rw [HE.out, if_neg (fun h => hk h.1)]) (by decide) hb)
    go_wp2_with fail
    go_ret2
    exact HN.out _ HX4.out.2
  by_cases hb1 : cw ≤ 8192
  case neg =>
    have HN := hide (fun w' (hb : Below w.heap.size w w') => ep_bad (W := W) (s := s) (cap := (C : Int)) (c := 3) (by rw [HE.out, if_neg (fun h => hb1 h.2.1)]) (by decide) hb)
    have hbi : (8192 : Int) < (cw : Int) := by omega
    go_wp2_with fail
    go_ret2
    exact HN.out _ HX4.out.2
  have hbi : ¬ (8192 : Int) < (cw : Int) := by omega
  by_cases hb2 : mn ≤ cw
  case neg =>
    have HN := hide (fun w' (hb : Below w.heap.size w w') => ep_bad (W := W) (s := s) (cap := (C : Int)) (c := 3) (by rw [HE.out, if_neg (fun h => hb2 h.2.2)]) (by decide) hb)
    go_wp2_with fail
    go_ret2
    exact HN.out _ HX4.out.2
  have HE0 := hide (show epK W s (C : Int) = 0 by rw [HE.out, if_pos ⟨hk, hb1, hb2⟩])
  have HR0 := hide (HR.out HE0.out)
  have HFL := hide (filL_len (zs := ms) (t := cw) (by rw [HI4.out.len]; exact hb2))
  have HFB := hide (filL_bit HBIT.out cw)
  go_wp2_with fail
  refine (specFill A4 mn c4 _ ms cw w4 HI4.out (Nat.le_refl _) (by omega) hb2).mono ?_
  rintro e w5 ⟨v5, rfl, ho5, hb5⟩
  have HX5 := hide (HX4.out.next hb5)
  obtain ⟨A5, c5, hv5, _⟩ := ho5.form
  rw [HFL.out] at hv5
  subst hv5
  have HI5 := hide (ho5.ints' HFL.out)
  clear ho5 hb5
  go_wp2_with fail
  refine (specElm A5 cw c5 _ W (filL ms cw) w5 HI5.out (Nat.le_refl _) (by omega) hw1 hw9 HFB.out).mono ?_
  rintro e w6 ⟨v6, rfl, ho6, hb6⟩
  have HX6 := hide (HX5.out.next hb6)
  rw [HDV.out] at ho6
  have HO6 := hide ho6
  have hle6 : w.heap.size ≤ w5.heap.size := HX5.out.2.size
  clear ho6 hb6
  go_wp2_with fail
  go_ret2
  rw [HE0.out, HR0.out]
  exact eb_of HO6.out HX6.out.2 hle6

set_option maxRecDepth 100000 in
set_option maxHeartbeats 1000000 in
theorem ep_noS {p k g : Int} (hb : fieldB p k g = false) (s : ByteArray) (cap : Int) (w : World) :
    Calls Try.prog 96 #[.agg #[.int .i64 p, .int .i64 k, .int .i64 g], .string s, .int .i64 cap] w (EbPost [] 1 w) := by
  have HX := hide (Box.start w 38 p k g)
  obtain ⟨c0, c1, c2⟩ := HX.out.cells
  have HV := hide (show ∀ w, Calls Try.prog 66 #[.agg #[.int .i64 p, .int .i64 k, .int .i64 g]] w (Gives (.bool false) w) from fun w => by rw [← hb]; exact specIsField p k g w)
  go_enter Try.func96, Try.ntmps96
  go_wp2_with fail
  refine (HV.out _).mono ?_
  rintro e w1 ⟨rfl, hb1⟩
  have HX1 := hide (HX.out.next hb1)
  clear hb1 c0 c1 c2
  go_wp2_with fail
  go_ret2
  exact eb_nil HX1.out.2
end Go.Proofs.Ythmpfnbcodolcaa

namespace Go.Proofs.Ythmpfnbcodolcaa
open Go Go.RowKit
set_option linter.unusedSimpArgs false
set_option linter.unusedVariables false

/-- The best length as a number, and its bound. -/
theorem bl_nat (s : ByteArray) : ∃ L : Nat, blOf s = (L : Int) ∧ L ≤ 1130800 := by
  unfold blOf
  split
  · rename_i h
    refine ⟨_, rfl, ?_⟩
    have h2 := (ok_tab (bytesI s) s.size 0).2.1
    rw [bytesI_len] at h2
    omega
  · exact ⟨0, rfl, by omega⟩
/-- The least capacity for so many bits. -/
def capN (L W : Nat) : Nat := max 1 ((L + W - 1) / W)
def psK (W : Nat) (s : ByteArray) : Int := if lbCode s = 0 ∧ capN (blOf s).toNat W ≤ 1500 then 0 else 3
def psV (W : Nat) (s : ByteArray) : Int := if psK W s = 0 then ((capN (blOf s).toNat W : Nat) : Int) else 0
theorem ps_bad {W : Nat} {s : ByteArray} (h : ¬ (lbCode s = 0 ∧ capN (blOf s).toNat W ≤ 1500)) : psK W s = 3 ∧ psV W s = 0 := by
  have : psK W s = 3 := by unfold psK; rw [if_neg h]
  exact ⟨this, by unfold psV; rw [this]; rfl⟩
theorem ps_ok {W : Nat} {s : ByteArray} (h : lbCode s = 0 ∧ capN (blOf s).toNat W ≤ 1500) : psK W s = 0 ∧ psV W s = ((capN (blOf s).toNat W : Nat) : Int) := by
  have : psK W s = 0 := by unfold psK; rw [if_pos h]
  exact ⟨this, by unfold psV; rw [this]; rfl⟩
theorem lb_two (s : ByteArray) : lbCode s = 0 ∨ lbCode s = 3 := by unfold lbCode; split <;> simp

set_option maxRecDepth 100000 in
set_option maxHeartbeats 4000000 in
theorem implPs {p k g : Int} {q : Nat} {mul : Nat → Nat → Nat} (hb : fieldB p k g = true) (hK : Kd p k g q mul) (s : ByteArray) (hs : s.size ≤ 1099511627776) (w : World) :
    Calls Try.prog 35 #[.agg #[.int .i64 p, .int .i64 k, .int .i64 g], .string s] w (GivesII (psV (wdt q) s) (psK (wdt q) s) w) := by
  have HX := hide (Box.start w 38 p k g)
  obtain ⟨c0, c1, c2⟩ := HX.out.cells
  have HV := hide (show ∀ w, Calls Try.prog 68 #[.agg #[.int .i64 p, .int .i64 k, .int .i64 g]] w (Gives (.bool true) w) from fun w => by rw [← hb]; exact implValid p k g w)
  have HW := hide (fun w => implWd hK w)
  have HBL := hide (fun w => implBl s hs w)
  obtain ⟨hq3, hq⟩ := hK.big
  obtain ⟨hw1, hw9, _, _⟩ := wdt_is hq3 hq
  obtain ⟨L, hL, hL2⟩ := bl_nat s
  have HBAD := hide (ps_bad (W := wdt q) (s := s))
  have HOK := hide (ps_ok (W := wdt q) (s := s))
  obtain ⟨W, hW⟩ : ∃ W, wdt q = W := ⟨_, rfl⟩
  rw [hW] at HW hw1 hw9 HBAD HOK
  rw [hL] at HBL HBAD HOK
  rw [Int.toNat_natCast] at HBAD HOK
  rw [hW]
  clear hW hL
  rcases lb_two s with hlb | hlb
  · rw [hlb] at HBL HBAD HOK
    have hdm := Nat.div_le_self (L + W - 1) W
    have HCN := hide (show capN L W = max 1 ((L + W - 1) / W) from rfl)
    obtain ⟨a1, ha1⟩ : ∃ a1, L + W = a1 := ⟨_, rfl⟩
    obtain ⟨a2, ha2⟩ : ∃ a2, a1 - 1 = a2 := ⟨_, rfl⟩
    rw [ha1, ha2] at hdm HCN
    have hwa : IntKind.i64.wrap ((L : Int) + (W : Int)) = (a1 : Int) := by rw [IntWalk.i64_in _ ⟨by omega, by omega⟩]; omega
    have hws : IntKind.i64.wrap ((a1 : Int) - 1) = (a2 : Int) := by rw [IntWalk.i64_in _ ⟨by omega, by omega⟩]; omega
    have hW0 : W ≠ 0 := by omega
    have hWi : ¬ (W : Int) = 0 := by omega
    have htd : (a2 : Int).tdiv (W : Int) = ((a2 / W : Nat) : Int) := by rw [Int.tdiv_eq_ediv_of_nonneg (by omega)]; rfl
    obtain ⟨Q, hQ⟩ : ∃ Q, a2 / W = Q := ⟨_, rfl⟩
    rw [hQ] at htd hdm HCN
    have hwq : IntKind.i64.wrap (Q : Int) = (Q : Int) := IntWalk.i64_in _ ⟨by omega, by omega⟩
    have hwqt : IntKind.i64.wrap ((a2 : Int).tdiv (W : Int)) = (Q : Int) := by rw [htd]; exact hwq
    obtain ⟨M, hM⟩ : ∃ M, capN L W = M := ⟨_, rfl⟩
    rw [hM] at HBAD HOK HCN
    have HCP := hide (fun w => implCap (M : Int) w)
    have HMM := HCN
    clear hM hQ ha1 ha2 hlb
    go_enter Try.func35, Try.ntmps35
    go_wp2_with fail
    refine (HV.out _).mono ?_
    rintro e w1 ⟨rfl, hb1⟩
    have HX1 := hide (HX.out.next hb1)
    clear hb1 c0 c1 c2
    go_wp2_with fail
    refine (HBL.out _).mono ?_
    rintro e w2 ⟨rfl, hb2⟩
    have HX2 := hide (HX1.out.next hb2)
    clear hb2
    have HXd := hide HX2.out.drew
    go_wp2_with fail
    refine tail_begin (fun w' => w'.cell? ⟨w.heap.size, 0, none⟩ = some (.int .i64 p) ∧ w'.cell? ⟨w.heap.size, 1, none⟩ = some (.int .i64 k) ∧ w'.cell? ⟨w.heap.size, 2, none⟩ = some (.int .i64 g)) 10 (by kernel_rfl) HXd.out.cells (fun hS' => ?_)
    refine tail_take2 0 rfl (by kernel_rfl) (by kernel_rfl) (by kernel_rfl) (by decide) (fun _ _ _ h => h) (by rfl) (v := ?_) ?_ (by assumption) ?_
    rotate_left 1
    · intro w' hS'; obtain ⟨d0, d1, d2⟩ := hS'; go_simp; try with_reducible rfl
    try simp only [Act.put, List.setIfInBounds_toArray, List.set_cons_zero, List.set_cons_succ]
    refine tail_take2 1 rfl (by kernel_rfl) (by kernel_rfl) (by kernel_rfl) (by decide) (fun _ _ _ h => h) (by rfl) (v := ?_) ?_ (by assumption) ?_
    rotate_left 1
    · intro w' hS'; obtain ⟨d0, d1, d2⟩ := hS'; go_simp; try with_reducible rfl
    try simp only [Act.put, List.setIfInBounds_toArray, List.set_cons_zero, List.set_cons_succ]
    refine tail_take2 5 rfl (by kernel_rfl) (by kernel_rfl) (by kernel_rfl) (by decide) (fun _ _ _ h => h) (by rfl) (v := ?_) ?_ (by assumption) ?_
    rotate_left 1
    · intro w' hS'; obtain ⟨d0, d1, d2⟩ := hS'; go_simp; try with_reducible rfl
    try simp only [Act.put, List.setIfInBounds_toArray, List.set_cons_zero, List.set_cons_succ]
    refine tail_call 2 rfl (by kernel_rfl) rfl (fun K hK => ?_)
    go_simp
    (go_at_call 69; refine (HW.out _).mono ?_; rintro e w5 ⟨rfl, hb5⟩; have HX5 := hide (HXd.out.next hb5); clear hb5)
    refine hK.out _ _ (by (try dsimp only); exact HX5.out.cells) (fun hS' => ?_)
    clear hK K
    try simp only [Act.put, List.setIfInBounds_toArray, List.set_cons_zero, List.set_cons_succ]
    refine tail_take2 3 rfl (by kernel_rfl) (by kernel_rfl) (by kernel_rfl) (by decide) (fun _ _ _ h => h) (by rfl) (v := ?_) ?_ (by assumption) ?_
    rotate_left 1
    · intro w' hS'; (try dsimp only at hS'); go_simp; try with_reducible rfl
    try simp only [Act.put, List.setIfInBounds_toArray, List.set_cons_zero, List.set_cons_succ]
    refine tail_take2 4 rfl (by kernel_rfl) (by kernel_rfl) (by kernel_rfl) (by decide) (fun _ _ _ h => h) (by rfl) (v := ?_) ?_ (by assumption) ?_
    rotate_left 1
    · intro w' hS'; (try dsimp only at hS'); go_simp; try with_reducible rfl
    try simp only [Act.put, List.setIfInBounds_toArray, List.set_cons_zero, List.set_cons_succ]
    refine tail_call 6 rfl (by kernel_rfl) rfl (fun K hK => ?_)
    go_simp
    (go_at_call 69; refine (HW.out _).mono ?_; rintro e w6 ⟨rfl, hb6⟩; have HX6 := hide (HX5.out.next hb6); clear hb6)
    refine hK.out _ _ (by (try dsimp only); exact HX6.out.cells) (fun hS' => ?_)
    clear hK K
    try simp only [Act.put, List.setIfInBounds_toArray, List.set_cons_zero, List.set_cons_succ]
    refine tail_take2 7 rfl (by kernel_rfl) (by kernel_rfl) (by kernel_rfl) (by decide) (fun _ _ _ h => h) (by rfl) (v := ?_) ?_ (by assumption) ?_
    rotate_left 1
    · intro w' hS'; (try dsimp only at hS'); go_simp; try with_reducible rfl
    try simp only [Act.put, List.setIfInBounds_toArray, List.set_cons_zero, List.set_cons_succ]
    refine tail_take2 8 rfl (by kernel_rfl) (by kernel_rfl) (by kernel_rfl) (by decide) (fun _ _ _ h => h) (by rfl) (v := ?_) ?_ (by assumption) ?_
    rotate_left 1
    · intro w' hS'; (try dsimp only at hS'); go_simp; try with_reducible rfl
    try simp only [Act.put, List.setIfInBounds_toArray, List.set_cons_zero, List.set_cons_succ]
    refine tail_take2 9 rfl (by kernel_rfl) (by kernel_rfl) (by kernel_rfl) (by decide) (fun _ _ _ h => h) (by rfl) (v := ?_) ?_ (by assumption) ?_
    rotate_left 1
    · intro w' hS'; (try dsimp only at hS'); go_simp; try with_reducible rfl
    try simp only [Act.put, List.setIfInBounds_toArray, List.set_cons_zero, List.set_cons_succ]
    refine tail_end (by kernel_rfl) ?_
    clear hS'
    first
      | rw [show (if (1 : Int) < (Q : Int) then (Q : Int) else 1) = (M : Int) by have := HMM.out; split <;> omega]
      | rw [show max (1 : Int) (Q : Int) = (M : Int) by have := HMM.out; omega]
    go_wp2_with fail
    refine (HCP.out _).mono ?_
    rintro e _ ⟨rfl, rfl⟩
    by_cases hc : M ≤ 1500
    · have hM1 : 1 ≤ M := by have := HMM.out; omega
      rw [inR_yes (by omega) (by omega)]
      have HO := hide (HOK.out ⟨by trivial, hc⟩)
      go_wp2_with fail
      go_ret2
      rw [HO.out.1, HO.out.2]
      exact ⟨rfl, HX6.out.2⟩
    · rw [inR_no (.inr (by omega))]
      have HO := hide (HBAD.out (fun h => hc h.2))
      go_wp2_with fail
      go_ret2
      rw [HO.out.1, HO.out.2]
      exact ⟨rfl, HX6.out.2⟩
  · rw [hlb] at HBL HBAD
    have HO := hide (HBAD.out (fun h => by have := h.1; omega))
    clear hlb
    go_enter Try.func35, Try.ntmps35
    go_wp2_with fail
    refine (HV.out _).mono ?_
    rintro e w1 ⟨rfl, hb1⟩
    have HX1 := hide (HX.out.next hb1)
    clear hb1 c0 c1 c2
    go_wp2_with fail
    refine (HBL.out _).mono ?_
    rintro e w2 ⟨rfl, hb2⟩
    have HX2 := hide (HX1.out.next hb2)
    clear hb2
    go_wp2_with fail
    go_ret2
    rw [HO.out.1, HO.out.2]
    exact ⟨rfl, HX2.out.2⟩

set_option maxRecDepth 100000 in
set_option maxHeartbeats 4000000 in
theorem specPs {p k g : Int} {q : Nat} {mul : Nat → Nat → Nat} (hb : fieldB p k g = true) (hK : Kd p k g q mul) (s : ByteArray) (hs : s.size ≤ 1099511627776) (w : World) :
    Calls Try.prog 34 #[.agg #[.int .i64 p, .int .i64 k, .int .i64 g], .string s] w (GivesII (psV (wdt q) s) (psK (wdt q) s) w) := by
  have HX := hide (Box.start w 38 p k g)
  obtain ⟨c0, c1, c2⟩ := HX.out.cells
  have HV := hide (show ∀ w, Calls Try.prog 66 #[.agg #[.int .i64 p, .int .i64 k, .int .i64 g]] w (Gives (.bool true) w) from fun w => by rw [← hb]; exact specIsField p k g w)
  have HW := hide (fun w => specWd hK w)
  have HBL := hide (fun w => specBl s hs w)
  obtain ⟨hq3, hq⟩ := hK.big
  obtain ⟨hw1, hw9, _, _⟩ := wdt_is hq3 hq
  obtain ⟨L, hL, hL2⟩ := bl_nat s
  have HBAD := hide (ps_bad (W := wdt q) (s := s))
  have HOK := hide (ps_ok (W := wdt q) (s := s))
  obtain ⟨W, hW⟩ : ∃ W, wdt q = W := ⟨_, rfl⟩
  rw [hW] at HW hw1 hw9 HBAD HOK
  rw [hL] at HBL HBAD HOK
  rw [Int.toNat_natCast] at HBAD HOK
  rw [hW]
  clear hW hL
  have hdm := Nat.div_le_self (L + W - 1) W
  have HCN := hide (show capN L W = max 1 ((L + W - 1) / W) from rfl)
  obtain ⟨a1, ha1⟩ : ∃ a1, L + W = a1 := ⟨_, rfl⟩
  obtain ⟨a2, ha2⟩ : ∃ a2, a1 - 1 = a2 := ⟨_, rfl⟩
  rw [ha1, ha2] at hdm HCN
  have hwa : IntKind.i64.wrap ((L : Int) + (W : Int)) = (a1 : Int) := by rw [IntWalk.i64_in _ ⟨by omega, by omega⟩]; omega
  have hws : IntKind.i64.wrap ((a1 : Int) - 1) = (a2 : Int) := by rw [IntWalk.i64_in _ ⟨by omega, by omega⟩]; omega
  have hW0 : W ≠ 0 := by omega
  have hWi : ¬ (W : Int) = 0 := by omega
  have htd : (a2 : Int).tdiv (W : Int) = ((a2 / W : Nat) : Int) := by rw [Int.tdiv_eq_ediv_of_nonneg (by omega)]; rfl
  obtain ⟨Q, hQ⟩ : ∃ Q, a2 / W = Q := ⟨_, rfl⟩
  rw [hQ] at htd hdm HCN
  have hwq : IntKind.i64.wrap (Q : Int) = (Q : Int) := IntWalk.i64_in _ ⟨by omega, by omega⟩
  have hwqt : IntKind.i64.wrap ((a2 : Int).tdiv (W : Int)) = (Q : Int) := by rw [htd]; exact hwq
  have hdv : (a2 : Int) / (W : Int) = (Q : Int) := by rw [← hQ]; rfl
  obtain ⟨M, hM⟩ : ∃ M, capN L W = M := ⟨_, rfl⟩
  rw [hM] at HBAD HOK HCN
  have hmq : (1 < Q ∧ M = Q) ∨ (¬ 1 < Q ∧ M = 1) := by have := HCN.out; omega
  obtain ⟨lb, hlbe⟩ : ∃ lb, lbCode s = lb := ⟨_, rfl⟩
  have hlb := lb_two s
  rw [hlbe] at HBL HBAD HOK hlb
  clear hM hQ ha1 ha2 hlbe
  go_enter Try.func34, Try.ntmps34
  go_wp2_with fail
  refine (HV.out _).mono ?_
  rintro e w1 ⟨rfl, hb1⟩
  have HX1 := hide (HX.out.next hb1)
  clear hb1 c0 c1 c2
  go_wp2_with fail
  refine (HBL.out _).mono ?_
  rintro e w2 ⟨rfl, hb2⟩
  have HX2 := hide (HX1.out.next hb2)
  clear hb2
  obtain ⟨c0, c1, c2⟩ := HX2.out.cells
  go_wp2_with fail
  refine (HW.out _).mono ?_
  rintro e w3 ⟨rfl, hb3⟩
  have HX3 := hide (HX2.out.next hb3)
  clear hb3 c0 c1 c2
  have hMs : ∀ h : 1 ≤ 2, True := fun _ => trivial
  clear hMs
  rcases hmq with ⟨h1, rfl⟩ | ⟨h1, rfl⟩
  · have h1i : (1 : Int) < (M : Int) := by omega
    have hmx : max (1 : Int) (M : Int) = (M : Int) := by omega
    rcases hlb with rfl | rfl
    · by_cases hc : M ≤ 1500
      · have hci : ¬ (1500 : Int) < (M : Int) := by omega
        have HO := hide (HOK.out ⟨rfl, hc⟩)
        go_wp2_with fail
        go_ret2
        rw [HO.out.1, HO.out.2]
        exact ⟨rfl, HX3.out.2⟩
      · have hci : (1500 : Int) < (M : Int) := by omega
        have HO := hide (HBAD.out (fun h => hc h.2))
        go_wp2_with fail
        go_ret2
        rw [HO.out.1, HO.out.2]
        exact ⟨rfl, HX3.out.2⟩
    · have HO := hide (HBAD.out (fun h => by have := h.1; omega))
      go_wp2_with fail
      go_ret2
      rw [HO.out.1, HO.out.2]
      exact ⟨rfl, HX3.out.2⟩
  · have h1i : ¬ (1 : Int) < (Q : Int) := by omega
    have hmx : max (1 : Int) (Q : Int) = 1 := by omega
    rcases hlb with rfl | rfl
    · have HO := hide (HOK.out ⟨rfl, by omega⟩)
      go_wp2_with fail
      go_ret2
      rw [HO.out.1, HO.out.2]
      exact ⟨rfl, HX3.out.2⟩
    · have HO := hide (HBAD.out (fun h => by have := h.1; omega))
      go_wp2_with fail
      go_ret2
      rw [HO.out.1, HO.out.2]
      exact ⟨rfl, HX3.out.2⟩

set_option maxRecDepth 100000 in
set_option maxHeartbeats 1000000 in
theorem ps_noS {p k g : Int} (hb : fieldB p k g = false) (s : ByteArray) (w : World) :
    Calls Try.prog 34 #[.agg #[.int .i64 p, .int .i64 k, .int .i64 g], .string s] w (GivesII 0 1 w) := by
  have HX := hide (Box.start w 38 p k g)
  obtain ⟨c0, c1, c2⟩ := HX.out.cells
  have HV := hide (show ∀ w, Calls Try.prog 66 #[.agg #[.int .i64 p, .int .i64 k, .int .i64 g]] w (Gives (.bool false) w) from fun w => by rw [← hb]; exact specIsField p k g w)
  go_enter Try.func34, Try.ntmps34
  go_wp2_with fail
  refine (HV.out _).mono ?_
  rintro e w1 ⟨rfl, hb1⟩
  have HX1 := hide (HX.out.next hb1)
  clear hb1 c0 c1 c2
  go_wp2_with fail
  go_ret2
  exact ⟨rfl, HX1.out.2⟩

set_option maxRecDepth 100000 in
set_option maxHeartbeats 1000000 in
theorem ps_noI {p k g : Int} (hb : fieldB p k g = false) (s : ByteArray) (w : World) :
    Calls Try.prog 35 #[.agg #[.int .i64 p, .int .i64 k, .int .i64 g], .string s] w (GivesII 0 1 w) := by
  have HX := hide (Box.start w 38 p k g)
  obtain ⟨c0, c1, c2⟩ := HX.out.cells
  have HV := hide (show ∀ w, Calls Try.prog 68 #[.agg #[.int .i64 p, .int .i64 k, .int .i64 g]] w (Gives (.bool false) w) from fun w => by rw [← hb]; exact implValid p k g w)
  go_enter Try.func35, Try.ntmps35
  go_wp2_with fail
  refine (HV.out _).mono ?_
  rintro e w1 ⟨rfl, hb1⟩
  have HX1 := hide (HX.out.next hb1)
  clear hb1 c0 c1 c2
  go_wp2_with fail
  go_ret2
  exact ⟨rfl, HX1.out.2⟩

/-- PayloadSize, of both. -/
theorem ps_both (p k g : Int) (s : ByteArray) (hs : s.size ≤ 1099511627776) : ∃ (v c : Int),
    (∀ w, Calls Try.prog 34 #[.agg #[.int .i64 p, .int .i64 k, .int .i64 g], .string s] w (GivesII v c w)) ∧
    (∀ w, Calls Try.prog 35 #[.agg #[.int .i64 p, .int .i64 k, .int .i64 g], .string s] w (GivesII v c w)) := by
  rcases hb : fieldB p k g with _ | _
  · exact ⟨0, 1, fun w => ps_noS hb s w, fun w => ps_noI hb s w⟩
  · obtain ⟨q, mul, γ, hK, _⟩ := fieldB_open hb
    exact ⟨_, _, fun w => specPs hb hK s hs w, fun w => implPs hb hK s hs w⟩
end Go.Proofs.Ythmpfnbcodolcaa

namespace Go.Proofs.Ythmpfnbcodolcaa
open Go Go.RowKit
set_option linter.unusedSimpArgs false
set_option linter.unusedVariables false

/-- EncodePayload, whatever the field. -/
theorem ep_ex (p k g : Int) (s : ByteArray) (cap : Int) (hs : s.size ≤ 1099511627776) : ∃ (r : List Int) (c : Int), r.length ≤ 1500 ∧ (c = 0 → 1 ≤ r.length ∧ fieldB p k g = true) ∧
    ∀ w, Calls Try.prog 96 #[.agg #[.int .i64 p, .int .i64 k, .int .i64 g], .string s, .int .i64 cap] w (EbPost r c w) := by
  rcases hb : fieldB p k g with _ | _
  · exact ⟨[], 1, by simp, fun h => by omega, fun w => ep_noS hb s cap w⟩
  · obtain ⟨q, mul, γ, hK, _⟩ := fieldB_open hb
    exact ⟨_, _, (epR_len (wdt q) s cap).1, fun h => ⟨(epR_len (wdt q) s cap).2 h, rfl⟩, fun w => specEp hb hK s cap hs w⟩
/-- What a draw of a payload leaves. -/
def DrawnP (g Bc : Nat) (A : Option Addr) (n c : Nat) (code : List Int) (w : World) (x : Ending) (w' : World) : Prop :=
  ∃ (p k γ : Int) (zs : List Int) (A1 : Option Addr) (n1 c1 : Nat), x = .returned (.tuple #[.agg #[.int .i64 p, .int .i64 k, .int .i64 γ], .slice A1 n1 c1]) ∧ n1 ≤ 1500 ∧ Ints .i64 w' w'.heap.size A1 n1 zs ∧ (∀ a, A1 = some a → w.heap.size ≤ a.block) ∧ Src w' g Bc A n c code ∧ w.grownBy w' (some g)
/-- While a payload is drawn. -/
structure Pd (g Bc : Nat) (A : Option Addr) (n c : Nat) (code : List Int) (w W : World) (b : Nat) (p k γ : Int) (v : Value) (zs : List Int) : Prop where
  src : Src W g Bc A n c code
  gr : w.grownBy W (some g)
  zr : Zero3 W w.heap.size
  box : W.heap[b]? = some (.cells #[.int .i64 p, .int .i64 k, .int .i64 γ] 38 (0, 0))
  own : Own W (b + 1) 2 .i64 v zs
  lo : g < w.heap.size ∧ w.heap.size < b
section
variable {g Bc : Nat} {A : Option Addr} {n c : Nat} {code : List Int} {w W W' : World} {b : Nat} {p k γ : Int} {v : Value} {zs : List Int}
theorem Pd.lt (h : Pd g Bc A n c code w W b p k γ v zs) : b < W.heap.size := (Array.getElem?_eq_some_iff.1 h.box).1
theorem Pd.next (h : Pd g Bc A n c code w W b p k γ v zs) (hs : Src W' g Bc A n c code) (hg : W.grownBy W' (some g)) : Pd g Bc A n c code w W' b p k γ v zs := by
  have hl := h.lo
  exact ⟨hs, grown_trans h.gr hg, h.zr.grown hg (by omega), row_grown h.box hg (by omega), h.own.grown hg (by
    rcases hv : v.ownBlock with _ | r
    · exact .inl rfl
    · exact .inr (fun e => by have := (h.own.lt hv).1; injection e; omega)), h.lo⟩
theorem Pd.below (h : Pd g Bc A n c code w W b p k γ v zs) (hb : Below W.heap.size W W') : Pd g Bc A n c code w W' b p k γ v zs :=
  ⟨h.src.below hb h.src.lt, grown_belowF h.gr hb h.gr.size, h.zr.below hb, heap_belowF h.box hb, h.own.below hb (Nat.le_refl _), h.lo⟩
theorem Pd.alloc (h : Pd g Bc A n c code w W b p k γ v zs) (o : Obj) : Pd g Bc A n c code w (W.alloc o) b p k γ v zs := h.below ((Below.refl _ _).alloc (Nat.le_refl _) o)
theorem Pd.drew (h : Pd g Bc A n c code w W b p k γ v zs) : Pd g Bc A n c code w W.drew b p k γ v zs := h.below (Below.refl _ _).drew
theorem Pd.cells (h : Pd g Bc A n c code w W b p k γ v zs) : W.cell? ⟨b, 0, none⟩ = some (.int .i64 p) ∧ W.cell? ⟨b, 1, none⟩ = some (.int .i64 k) ∧ W.cell? ⟨b, 2, none⟩ = some (.int .i64 γ) := cells3 h.box
theorem Pd.own' {v' : Value} {zs' : List Int} (h : Pd g Bc A n c code w W b p k γ v zs) (ho : Own W (b + 1) 2 .i64 v' zs') : Pd g Bc A n c code w W b p k γ v' zs' := ⟨h.src, h.gr, h.zr, h.box, ho, h.lo⟩
theorem own_lit3P (w : World) (e : TypeId) (k : IntKind) (x y z : Int) : Own (w.alloc (.cells #[.int k x, .int k y, .int k z] e)) w.heap.size e k (.slice (some ⟨w.heap.size, 0, none⟩) 3 3) [x, y, z] :=
  Own.intro (World.ownsRow_lit w #[.int k x, .int k y, .int k z] 3 (by simp) (by simp [maxLen]) (by simp)) rfl rfl
theorem Pd.put {l n1 c1 : Nat} (h : Pd g Bc A n c code w W b p k γ (.slice (some ⟨l, 0, none⟩) n1 c1) zs) (j : Nat) (x : Int) : Pd g Bc A n c code w (W.setCell ⟨l, j, none⟩ (.int .i64 x)) b p k γ (.slice (some ⟨l, 0, none⟩) n1 c1) (zs.set j x) := by
  obtain ⟨h1, h2⟩ := h.own.stored j x
  have hl : b + 1 ≤ l := (h.own.lt (g := l) rfl).1
  have ho := h.lo
  refine ⟨h.src.still h2 (fun r hr => by cases hr; omega), grown_set2 h.gr l j _ ?_, ?_, ?_, h1, h.lo⟩
  · omega
  · exact h.zr.grown h2 (by omega)
  · exact row_grown h.box h2 (by omega)
theorem Pd.lit (h : Pd g Bc A n c code w W b p k γ v zs) (x y z : Int) :
    DrawnP g Bc A n c code w (.returned (.tuple #[.agg #[.int .i64 p, .int .i64 k, .int .i64 γ], .slice (some ⟨W.heap.size, 0, none⟩) 3 3]))
      ((((W.setCell ⟨w.heap.size, 0, none⟩ (.int .i64 p)).setCell ⟨w.heap.size, 1, none⟩ (.int .i64 k)).setCell ⟨w.heap.size, 2, none⟩ (.int .i64 γ)).alloc (.cells #[.int .i64 x, .int .i64 y, .int .i64 z] 2)) := by
  have hl := h.lo
  obtain ⟨W3, hW3⟩ : ∃ W3, (((W.setCell ⟨w.heap.size, 0, none⟩ (.int .i64 p)).setCell ⟨w.heap.size, 1, none⟩ (.int .i64 k)).setCell ⟨w.heap.size, 2, none⟩ (.int .i64 γ)) = W3 := ⟨_, rfl⟩
  have hsz : W3.heap.size = W.heap.size := by rw [← hW3]; simp [World.setCell]
  have ho := own_lit3P W3 2 .i64 x y z
  have hs := set3_src (N := w.heap.size) h.src hl.1 (.int .i64 p) (.int .i64 k) (.int .i64 γ)
  have hg := set3_grown h.gr w.heap.size (Nat.le_refl _) (.int .i64 p) (.int .i64 k) (.int .i64 γ)
  rw [hW3] at hs hg ⊢
  rw [hsz] at ho
  exact ⟨p, k, γ, _, _, 3, 3, rfl, by omega, ho.ints' rfl, (fun a ha => by cases ha; have := h.lt; show w.heap.size ≤ W.heap.size; omega), hs.still (World.grownBy_alloc W3 _ none) (by simp), grown_alloc hg _⟩
theorem own_some {e : TypeId} {A1 : Option Addr} {n1 c1 base : Nat} (h : Own W base e .i64 (.slice A1 n1 c1) zs) (hz : zs.length = n1) (hn : 0 < n1) : ∃ l, A1 = some ⟨l, 0, none⟩ := by
  rcases h.2 with ⟨_, h0⟩ | ⟨l, cap, cur, hv, _⟩
  · omega
  · simp only [Value.slice.injEq] at hv
    exact ⟨l, hv.1⟩
theorem own_cellP {e : TypeId} {l n1 c1 base r : Nat} (h : Own W base e .i64 (.slice (some ⟨l, 0, none⟩) n1 c1) zs) (hz : zs.length = n1) (hr : r < n1) : ∃ x : Int, W.cell? ⟨l, r, none⟩ = some (.int .i64 x) := by
  obtain ⟨b', off', e', _, hcl⟩ := (h.ints' hz).2 (by omega)
  simp only [Option.some.injEq, Addr.mk.injEq, and_true] at e'
  obtain ⟨rfl, rfl⟩ := e'
  have := hcl r (zs[r]'(by omega)) (List.getElem?_eq_getElem _)
  rw [Nat.zero_add] at this
  exact ⟨_, this⟩
theorem Pd.fin {A1 : Option Addr} {n1 c1 q : Nat} (h : Pd g Bc A n c code w W b p k γ (.slice A1 n1 c1) zs) (hz : zs.length = n1) (hn : n1 ≤ 1500) (hq : q ≤ n1) :
    DrawnP g Bc A n c code w (.returned (.tuple #[.agg #[.int .i64 p, .int .i64 k, .int .i64 γ], .slice A1 q c1]))
      (((W.setCell ⟨w.heap.size, 0, none⟩ (.int .i64 p)).setCell ⟨w.heap.size, 1, none⟩ (.int .i64 k)).setCell ⟨w.heap.size, 2, none⟩ (.int .i64 γ)) := by
  have hl := h.lo
  have hg3 : W.grownBy (((W.setCell ⟨w.heap.size, 0, none⟩ (.int .i64 p)).setCell ⟨w.heap.size, 1, none⟩ (.int .i64 k)).setCell ⟨w.heap.size, 2, none⟩ (.int .i64 γ)) (some w.heap.size) := grown_set (grown_set (grown_set (World.grownBy.refl _ _) 0 _) 1 _) 2 _
  have ho := h.own.grown hg3 (by
    rcases hv : (Value.slice A1 n1 c1).ownBlock with _ | r
    · exact .inl rfl
    · exact .inr (fun e => by have := (h.own.lt hv).1; injection e; omega))
  have hI := ho.ints' hz
  have hbl : ∀ a, A1 = some a → w.heap.size ≤ a.block := fun a ha => by
    subst ha
    have hlo := h.lo
    rcases h.own.2 with ⟨hv, _⟩ | ⟨l, cap, cur, hv, hb, _⟩
    · simp at hv
    · simp only [Value.slice.injEq, Option.some.injEq] at hv
      rw [hv.1]; show w.heap.size ≤ l; omega
  refine ⟨p, k, γ, zs.take q, A1, q, c1, rfl, by omega, ?_, hbl, set3_src h.src hl.1 _ _ _, set3_grown h.gr _ (Nat.le_refl _) _ _ _⟩
  refine ⟨by rw [List.length_take]; omega, fun hp => ?_⟩
  obtain ⟨b', off', e, hb, hcl⟩ := hI.2 (by omega)
  exact ⟨b', off', e, hb, fun i y hy => hcl i y (by rw [List.getElem?_take] at hy; split at hy; exact hy; cases hy)⟩
end

set_option maxRecDepth 100000 in
set_option maxHeartbeats 4000000 in
theorem drawPay (g Bc : Nat) (A : Option Addr) (n c : Nat) (code : List Int) (w : World) (hS : Src w g Bc A n c code) :
    Calls Try.prog 59 #[.pointer (some ⟨g, 0, none⟩)] w (DrawnP g Bc A n c code w) := by
  have hgl := hS.lt
  have HS := hide ((hS.still (World.grownBy_alloc w (.cells #[.int .i64 0, .int .i64 0, .int .i64 0] 38) none) (by simp)))
  have HZ := hide (Zero3.start w)
  clear hS
  go_enter Try.func59, Try.ntmps59
  go_wp2_with fail
  refine (drawAny g Bc A n c code _ HS.out).mono ?_
  rintro e w1 ⟨p, k, γ, rfl, hs, hg⟩
  have hl1 : w.heap.size < w1.heap.size := (HZ.out.grown hg (by omega)).lt
  have HP1 := hide (show Pd g Bc A n c code w (w1.alloc (.cells #[.int .i64 p, .int .i64 k, .int .i64 γ] 38)) w1.heap.size p k γ (.slice none 0 0) [] from
    ⟨hs.still (World.grownBy_alloc w1 _ none) (by simp), grown_alloc (grown_trans (World.grownBy_alloc w _ (some g)) hg) _, (HZ.out.grown hg (by omega)).alloc _, heap_alloc_new w1 _, World.ownsRow_nil _ _ _ _, hgl, hl1⟩)
  clear hs hg HS HZ
  go_wp2_with fail
  refine (drawMsg g Bc A n c code _ HP1.out.src).mono ?_
  rintro e w2 ⟨s, rfl, hss, hs, hg⟩
  have HP2 := hide (HP1.out.next hs hg)
  clear hs hg HP1
  obtain ⟨d0, d1, d2⟩ := HP2.out.cells
  obtain ⟨v, cd, hPS, _⟩ := ps_both p k γ s (by omega)
  have HPS := hide hPS
  clear hPS
  go_wp2_with fail
  refine (HPS.out _).mono ?_
  rintro e w3 ⟨rfl, hb⟩
  have HP3 := hide (HP2.out.below hb)
  clear hb HP2 d0 d1 d2
  obtain ⟨b, hbe⟩ : ∃ b, w1.heap.size = b := ⟨_, rfl⟩
  rw [hbe] at HP3 hl1 ⊢
  clear hbe
  have HE := hide (fun cap => ep_ex p k γ s cap (by omega))
  go_wp2_with fail
  have HPd := hide HP3.out.drew
  refine tail_begin (fun w' => w'.cell? ⟨b, 0, none⟩ = some (.int .i64 p) ∧ w'.cell? ⟨b, 1, none⟩ = some (.int .i64 k) ∧ w'.cell? ⟨b, 2, none⟩ = some (.int .i64 γ)) 12 (by kernel_rfl) HPd.out.cells (fun hS' => ?_)
  obtain ⟨wd, hwd⟩ : ∃ wd, w3.drew = wd := ⟨_, rfl⟩
  rw [hwd] at hS' HPd ⊢
  clear hwd HP3
  refine tail_take2 0 rfl (by kernel_rfl) (by kernel_rfl) (by kernel_rfl) (by decide) (fun _ _ _ h => h) (by rfl) (v := ?_) ?_ (by assumption) ?_
  rotate_left 1
  · intro w' hS'; obtain ⟨d0, d1, d2⟩ := hS'; go_simp; try with_reducible rfl
  try simp only [Act.put, List.setIfInBounds_toArray, List.set_cons_zero, List.set_cons_succ]
  refine tail_take2 1 rfl (by kernel_rfl) (by kernel_rfl) (by kernel_rfl) (by decide) (fun _ _ _ h => h) (by rfl) (v := ?_) ?_ (by assumption) ?_
  rotate_left 1
  · intro w' hS'; obtain ⟨d0, d1, d2⟩ := hS'; go_simp; try with_reducible rfl
  try simp only [Act.put, List.setIfInBounds_toArray, List.set_cons_zero, List.set_cons_succ]
  refine tail_take2 2 rfl (by kernel_rfl) (by kernel_rfl) (by kernel_rfl) (by decide) (fun _ _ _ h => h) (by rfl) (v := ?_) ?_ (by assumption) ?_
  rotate_left 1
  · intro w' hS'; obtain ⟨d0, d1, d2⟩ := hS'; go_simp; try with_reducible rfl
  try simp only [Act.put, List.setIfInBounds_toArray, List.set_cons_zero, List.set_cons_succ]
  refine tail_take2 3 rfl (by kernel_rfl) (by kernel_rfl) (by kernel_rfl) (by decide) (fun _ _ _ h => h) (by rfl) (v := ?_) ?_ (by assumption) ?_
  rotate_left 1
  · intro w' hS'; obtain ⟨d0, d1, d2⟩ := hS'; go_simp; try with_reducible rfl
  try simp only [Act.put, List.setIfInBounds_toArray, List.set_cons_zero, List.set_cons_succ]
  refine tail_call 4 rfl (by kernel_rfl) rfl (fun K hK => ?_)
  go_simp
  (go_at_call 57; refine (next_any g Bc A n c code 4 _ HPd.out.src (by omega)).mono ?_; rintro e w4 ⟨y, rfl, hy0, hy1, hs, hg⟩; have HP4 := hide (HPd.out.next hs hg); clear hs hg)
  refine hK.out _ _ (by (try dsimp only); exact HP4.out.cells) (fun hS' => ?_)
  clear hK K
  try simp only [Act.put, List.setIfInBounds_toArray, List.set_cons_zero, List.set_cons_succ]
  refine tail_take2 5 rfl (by kernel_rfl) (by kernel_rfl) (by kernel_rfl) (by decide) (fun _ _ _ h => h) (by rfl) (v := ?_) ?_ (by assumption) ?_
  rotate_left 1
  · intro w' hS'; obtain ⟨d0, d1, d2⟩ := hS'; go_simp; try with_reducible rfl
  try simp only [Act.put, List.setIfInBounds_toArray, List.set_cons_zero, List.set_cons_succ]
  refine tail_call 6 rfl (by kernel_rfl) rfl (fun K hK => ?_)
  go_simp
  (go_at_call 96; obtain ⟨rz, ce, hrl, hce, hcall⟩ := HE.out (IntKind.i64.wrap (v + y)); refine (hcall _).mono ?_; rintro e w5 ⟨A5, c5, rfl, hc5, ho5, hb5⟩; have hlt4 := HP4.out.lt; have HP5 := hide ((HP4.out.below hb5).own' (ho5.low hlt4)); clear ho5 hb5 hcall)
  refine hK.out _ _ (by (try dsimp only); exact HP5.out.cells) (fun hS' => ?_)
  clear hK K
  try simp only [Act.put, List.setIfInBounds_toArray, List.set_cons_zero, List.set_cons_succ]
  refine tail_take2 7 rfl (by kernel_rfl) (by kernel_rfl) (by kernel_rfl) (by decide) (fun _ _ _ h => h) (by rfl) (v := ?_) ?_ (by assumption) ?_
  rotate_left 1
  · intro w' hS'; obtain ⟨d0, d1, d2⟩ := hS'; go_simp; try with_reducible rfl
  try simp only [Act.put, List.setIfInBounds_toArray, List.set_cons_zero, List.set_cons_succ]
  refine tail_take2 8 rfl (by kernel_rfl) (by kernel_rfl) (by kernel_rfl) (by decide) (fun _ _ _ h => h) (by rfl) (v := ?_) ?_ (by assumption) ?_
  rotate_left 1
  · intro w' hS'; obtain ⟨d0, d1, d2⟩ := hS'; go_simp; try with_reducible rfl
  try simp only [Act.put, List.setIfInBounds_toArray, List.set_cons_zero, List.set_cons_succ]
  refine tail_take2 9 rfl (by kernel_rfl) (by kernel_rfl) (by kernel_rfl) (by decide) (fun _ _ _ h => h) (by rfl) (v := ?_) ?_ (by assumption) ?_
  rotate_left 1
  · intro w' hS'; obtain ⟨d0, d1, d2⟩ := hS'; go_simp; try with_reducible rfl
  try simp only [Act.put, List.setIfInBounds_toArray, List.set_cons_zero, List.set_cons_succ]
  refine tail_take2 10 rfl (by kernel_rfl) (by kernel_rfl) (by kernel_rfl) (by decide) (fun _ _ _ h => h) (by rfl) (v := ?_) ?_ (by assumption) ?_
  rotate_left 1
  · intro w' hS'; obtain ⟨d0, d1, d2⟩ := hS'; go_simp; try with_reducible rfl
  try simp only [Act.put, List.setIfInBounds_toArray, List.set_cons_zero, List.set_cons_succ]
  refine tail_take2 11 rfl (by kernel_rfl) (by kernel_rfl) (by kernel_rfl) (by decide) (fun _ _ _ h => h) (by rfl) (v := ?_) ?_ (by assumption) ?_
  rotate_left 1
  · intro w' hS'; obtain ⟨d0, d1, d2⟩ := hS'; go_simp; try with_reducible rfl
  try simp only [Act.put, List.setIfInBounds_toArray, List.set_cons_zero, List.set_cons_succ]
  refine tail_end (by kernel_rfl) ?_
  clear hS'
  by_cases hce0 : ce = 0
  case neg =>
    have HPl := hide ((HP5.out.alloc (.cells #[.int .i64 1, .int .i64 2, .int .i64 3] 2)).own' ((own_lit3P w5 2 .i64 1 2 3).low HP5.out.lt))
    obtain ⟨z0, z1, z2⟩ := HP5.out.zr.cells
    obtain ⟨f0, f1, f2⟩ := HP5.out.zr.frozen
    obtain ⟨d0, d1, d2⟩ := HP5.out.cells
    have hzl := HP5.out.zr.lt
    go_wp2_with fail
    exact bodyPost_ret (v := .tuple #[.agg #[.int .i64 p, .int .i64 k, .int .i64 γ], .slice (some ⟨w5.heap.size, 0, none⟩) 3 3]) (by simp [results, Try.results59, go_sem, z0, z1, z2, hzl]) rfl (HP5.out.lit 1 2 3)
  subst hce0
  obtain ⟨hn1, hV⟩ := hce rfl
  obtain ⟨q, mul, γ0, hKd, _⟩ := fieldB_open hV
  have hqb := hKd.big
  obtain ⟨nn, hnn⟩ : ∃ nn, rz.length = nn := ⟨_, rfl⟩
  have HNN := hide hnn
  rw [hnn] at hrl hn1 hc5 HP5 ⊢
  have h0n : 0 < nn := by omega
  clear hnn hce
  obtain ⟨l, rfl⟩ := own_some HP5.out.own HNN.out hn1
  go_wp2_with fail
  refine (next_any g Bc A n c code 12 _ HP5.out.src (by omega)).mono ?_
  rintro e w6 ⟨y6, rfl, h60, h61, hs, hg⟩
  have HP6 := hide (HP5.out.next hs hg)
  clear hs hg h60 h61 HP5
  by_cases hy0 : y6 = 0
  · subst hy0
    go_wp2_with fail
    have HPd := hide HP6.out.drew
    refine tail_begin (fun w' => w'.cell? ⟨b, 0, none⟩ = some (.int .i64 p) ∧ w'.cell? ⟨b, 1, none⟩ = some (.int .i64 k) ∧ w'.cell? ⟨b, 2, none⟩ = some (.int .i64 γ)) 11 (by kernel_rfl) HPd.out.cells (fun hS' => ?_)
    obtain ⟨wd, hwd⟩ : ∃ wd, w6.drew = wd := ⟨_, rfl⟩
    rw [hwd] at hS' HPd ⊢
    clear hwd HP6
    refine tail_take2 0 rfl (by kernel_rfl) (by kernel_rfl) (by kernel_rfl) (by decide) (fun _ _ _ h => h) (by rfl) (v := ?_) ?_ (by assumption) ?_
    rotate_left 1
    · intro w' hS'; obtain ⟨d0, d1, d2⟩ := hS'; go_simp; try with_reducible rfl
    try simp only [Act.put, List.setIfInBounds_toArray, List.set_cons_zero, List.set_cons_succ]
    refine tail_take2 1 rfl (by kernel_rfl) (by kernel_rfl) (by kernel_rfl) (by decide) (fun _ _ _ h => h) (by rfl) (v := ?_) ?_ (by assumption) ?_
    rotate_left 1
    · intro w' hS'; obtain ⟨d0, d1, d2⟩ := hS'; go_simp; try with_reducible rfl
    try simp only [Act.put, List.setIfInBounds_toArray, List.set_cons_zero, List.set_cons_succ]
    refine tail_take2 2 rfl (by kernel_rfl) (by kernel_rfl) (by kernel_rfl) (by decide) (fun _ _ _ h => h) (by rfl) (v := ?_) ?_ (by assumption) ?_
    rotate_left 1
    · intro w' hS'; obtain ⟨d0, d1, d2⟩ := hS'; go_simp; try with_reducible rfl
    try simp only [Act.put, List.setIfInBounds_toArray, List.set_cons_zero, List.set_cons_succ]
    refine tail_take2 3 rfl (by kernel_rfl) (by kernel_rfl) (by kernel_rfl) (by decide) (fun _ _ _ h => h) (by rfl) (v := ?_) ?_ (by assumption) ?_
    rotate_left 1
    · intro w' hS'; obtain ⟨d0, d1, d2⟩ := hS'; go_simp; try with_reducible rfl
    try simp only [Act.put, List.setIfInBounds_toArray, List.set_cons_zero, List.set_cons_succ]
    refine tail_take2 5 rfl (by kernel_rfl) (by kernel_rfl) (by kernel_rfl) (by decide) (fun _ _ _ h => h) (by rfl) (v := ?_) ?_ (by assumption) ?_
    rotate_left 1
    · intro w' hS'; obtain ⟨d0, d1, d2⟩ := hS'; go_simp; try with_reducible rfl
    try simp only [Act.put, List.setIfInBounds_toArray, List.set_cons_zero, List.set_cons_succ]
    refine tail_take2 6 rfl (by kernel_rfl) (by kernel_rfl) (by kernel_rfl) (by decide) (fun _ _ _ h => h) (by rfl) (v := ?_) ?_ (by assumption) ?_
    rotate_left 1
    · intro w' hS'; obtain ⟨d0, d1, d2⟩ := hS'; go_simp; try with_reducible rfl
    try simp only [Act.put, List.setIfInBounds_toArray, List.set_cons_zero, List.set_cons_succ]
    refine tail_call 4 rfl (by kernel_rfl) rfl (fun K hK => ?_)
    go_simp
    (go_at_call 57; refine (next_any g Bc A n c code (nn : Int) _ HPd.out.src (by omega)).mono ?_; rintro e w7 ⟨y7, rfl, hy70, hy71, hs, hg⟩; have HP7 := hide (HPd.out.next hs hg); clear hs hg)
    refine hK.out _ _ (by (try dsimp only); exact HP7.out.cells) (fun hS' => ?_)
    clear hK K
    try simp only [Act.put, List.setIfInBounds_toArray, List.set_cons_zero, List.set_cons_succ]
    obtain ⟨r, rfl⟩ : ∃ m : Nat, y7 = m := ⟨y7.toNat, by omega⟩
    have hr : r < nn := by omega
    have hri : (r : Int) < (nn : Int) := by omega
    refine tail_call 7 rfl (by kernel_rfl) rfl (fun K hK => ?_)
    go_simp
    (go_at_call 97; refine (specSize hKd _).mono ?_; rintro e w8 ⟨rfl, hb⟩; have HP8 := hide (HP7.out.below hb); clear hb)
    refine hK.out _ _ (by (try dsimp only); exact HP8.out.cells) (fun hS' => ?_)
    clear hK K
    try simp only [Act.put, List.setIfInBounds_toArray, List.set_cons_zero, List.set_cons_succ]
    refine tail_call 8 rfl (by kernel_rfl) rfl (fun K hK => ?_)
    go_simp
    (go_at_call 57; refine (next_any g Bc A n c code (q : Int) _ HP8.out.src (by omega)).mono ?_; rintro e w9 ⟨y9, rfl, hy90, hy91, hs, hg⟩; have HP9 := hide (HP8.out.next hs hg); clear hs hg)
    refine hK.out _ _ (by (try dsimp only); exact HP9.out.cells) (fun hS' => ?_)
    clear hK K
    try simp only [Act.put, List.setIfInBounds_toArray, List.set_cons_zero, List.set_cons_succ]
    refine tail_take2 9 rfl (by kernel_rfl) (by kernel_rfl) (by kernel_rfl) (by decide) (fun _ _ _ h => h) (by rfl) (v := ?_) ?_ (by assumption) ?_
    rotate_left 1
    · intro w' hS'; obtain ⟨d0, d1, d2⟩ := hS'; go_simp; try with_reducible rfl
    try simp only [Act.put, List.setIfInBounds_toArray, List.set_cons_zero, List.set_cons_succ]
    have fz := HP9.out.own.frozenAt r
    obtain ⟨xo, hxo⟩ := own_cellP HP9.out.own HNN.out hr
    have HPa := hide (HP9.out.put r y9)
    refine tail_call 10 rfl (by kernel_rfl) rfl (fun K hK => ?_)
    go_simp
    skip
    refine hK.out _ _ (by (try dsimp only); exact HPa.out.cells) (fun hS' => ?_)
    clear hK K
    try simp only [Act.put, List.setIfInBounds_toArray, List.set_cons_zero, List.set_cons_succ]
    refine tail_end (by kernel_rfl) ?_
    clear hS'
    obtain ⟨z0, z1, z2⟩ := HPa.out.zr.cells
    obtain ⟨f0, f1, f2⟩ := HPa.out.zr.frozen
    obtain ⟨d0, d1, d2⟩ := HPa.out.cells
    have hzl := HPa.out.zr.lt
    go_wp2_with fail
    exact bodyPost_ret (v := .tuple #[.agg #[.int .i64 p, .int .i64 k, .int .i64 γ], .slice (some ⟨l, 0, none⟩) nn c5]) (by simp [results, Try.results59, go_sem, z0, z1, z2, hzl]) rfl (HPa.out.fin (by rw [List.length_set]; exact HNN.out) hrl (Nat.le_refl _))
  by_cases hy1 : y6 = 1
  · subst hy1
    have hw1 : IntKind.i64.wrap ((q : Int) - 1) = (q : Int) - 1 := IntWalk.i64_in _ ⟨by omega, by omega⟩
    go_wp2_with fail
    have HPd := hide HP6.out.drew
    refine tail_begin (fun w' => w'.cell? ⟨b, 0, none⟩ = some (.int .i64 p) ∧ w'.cell? ⟨b, 1, none⟩ = some (.int .i64 k) ∧ w'.cell? ⟨b, 2, none⟩ = some (.int .i64 γ)) 13 (by kernel_rfl) HPd.out.cells (fun hS' => ?_)
    obtain ⟨wd, hwd⟩ : ∃ wd, w6.drew = wd := ⟨_, rfl⟩
    rw [hwd] at hS' HPd ⊢
    clear hwd HP6
    refine tail_take2 0 rfl (by kernel_rfl) (by kernel_rfl) (by kernel_rfl) (by decide) (fun _ _ _ h => h) (by rfl) (v := ?_) ?_ (by assumption) ?_
    rotate_left 1
    · intro w' hS'; obtain ⟨d0, d1, d2⟩ := hS'; go_simp; try with_reducible rfl
    try simp only [Act.put, List.setIfInBounds_toArray, List.set_cons_zero, List.set_cons_succ]
    refine tail_take2 1 rfl (by kernel_rfl) (by kernel_rfl) (by kernel_rfl) (by decide) (fun _ _ _ h => h) (by rfl) (v := ?_) ?_ (by assumption) ?_
    rotate_left 1
    · intro w' hS'; obtain ⟨d0, d1, d2⟩ := hS'; go_simp; try with_reducible rfl
    try simp only [Act.put, List.setIfInBounds_toArray, List.set_cons_zero, List.set_cons_succ]
    refine tail_take2 3 rfl (by kernel_rfl) (by kernel_rfl) (by kernel_rfl) (by decide) (fun _ _ _ h => h) (by rfl) (v := ?_) ?_ (by assumption) ?_
    rotate_left 1
    · intro w' hS'; obtain ⟨d0, d1, d2⟩ := hS'; go_simp; try with_reducible rfl
    try simp only [Act.put, List.setIfInBounds_toArray, List.set_cons_zero, List.set_cons_succ]
    refine tail_take2 7 rfl (by kernel_rfl) (by kernel_rfl) (by kernel_rfl) (by decide) (fun _ _ _ h => h) (by rfl) (v := ?_) ?_ (by assumption) ?_
    rotate_left 1
    · intro w' hS'; obtain ⟨d0, d1, d2⟩ := hS'; go_simp; try with_reducible rfl
    try simp only [Act.put, List.setIfInBounds_toArray, List.set_cons_zero, List.set_cons_succ]
    refine tail_call 2 rfl (by kernel_rfl) rfl (fun K hK => ?_)
    go_simp
    (go_at_call 97; refine (specSize hKd _).mono ?_; rintro e w7 ⟨rfl, hb⟩; have HP7 := hide (HPd.out.below hb); clear hb)
    refine hK.out _ _ (by (try dsimp only); exact HP7.out.cells) (fun hS' => ?_)
    clear hK K
    try simp only [Act.put, List.setIfInBounds_toArray, List.set_cons_zero, List.set_cons_succ]
    refine tail_call 4 rfl (by kernel_rfl) rfl (fun K hK => ?_)
    go_simp
    (go_at_call 97; refine (specSize hKd _).mono ?_; rintro e w8 ⟨rfl, hb⟩; have HP8 := hide (HP7.out.below hb); clear hb)
    refine hK.out _ _ (by (try dsimp only); exact HP8.out.cells) (fun hS' => ?_)
    clear hK K
    try simp only [Act.put, List.setIfInBounds_toArray, List.set_cons_zero, List.set_cons_succ]
    refine tail_take2 5 rfl (by kernel_rfl) (by kernel_rfl) (by kernel_rfl) (by decide) (fun _ _ _ h => h) (by rfl) (v := ?_) ?_ (by assumption) ?_
    rotate_left 1
    · intro w' hS'; obtain ⟨d0, d1, d2⟩ := hS'; go_simp; try with_reducible rfl
    try simp only [Act.put, List.setIfInBounds_toArray, List.set_cons_zero, List.set_cons_succ]
    refine tail_two 6 8 rfl rfl (by kernel_rfl) rfl rfl (fun K hK => ?_) (fun K hK => ?_)
    · go_simp
      have HP8l := hide (HP8.out.alloc (.cells #[.int .i64 (-1), .int .i64 (q : Int), .int .i64 ((q : Int) - 1)] 2))
      refine hK.out _ _ (by (try dsimp only); exact HP8l.out.cells) (fun hS' => ?_)
      clear hK K
      try simp only [Act.put, List.setIfInBounds_toArray, List.set_cons_zero, List.set_cons_succ]
      have hx : ∀ r : Nat, r < 3 → ∃ x, (w8.alloc (.cells #[.int .i64 (-1), .int .i64 (q : Int), .int .i64 ((q : Int) - 1)] 2)).cell? ⟨w8.heap.size, r, none⟩ = some (.int .i64 x) := fun r hr => by
        rw [World.cell?_alloc_at _ _ _ _ rfl]
        rcases (show r = 0 ∨ r = 1 ∨ r = 2 by omega) with rfl | rfl | rfl <;> exact ⟨_, rfl⟩
      have hbl : w8.heap.size < (w8.alloc (.cells #[.int .i64 (-1), .int .i64 (q : Int), .int .i64 ((q : Int) - 1)] 2)).heap.size := by rw [alloc_size]; omega
      obtain ⟨wa, hwa⟩ : ∃ wa, w8.alloc (.cells #[.int .i64 (-1), .int .i64 (q : Int), .int .i64 ((q : Int) - 1)] 2) = wa := ⟨_, rfl⟩
      rw [hwa] at hx hbl HP8l hS' ⊢
      clear hwa
      refine tail_call 8 rfl (by kernel_rfl) rfl (fun K hK => ?_)
      go_simp
      (go_at_call 57; refine (next_any g Bc A n c code 3 _ HP8l.out.src (by omega)).mono ?_; rintro e w9 ⟨y9, rfl, hy90, hy91, hs, hg⟩; have HP9 := hide (HP8l.out.next hs hg))
      refine hK.out _ _ (by (try dsimp only); exact HP9.out.cells) (fun hS' => ?_)
      clear hK K
      try simp only [Act.put, List.setIfInBounds_toArray, List.set_cons_zero, List.set_cons_succ]
      obtain ⟨r, rfl⟩ : ∃ m : Nat, y9 = m := ⟨y9.toNat, by omega⟩
      have hr3 : (r : Int) < 3 := by omega
      obtain ⟨x, hx⟩ := hx r (by omega)
      have hgb : g ≠ w8.heap.size := by have := HP8.out.src.lt; omega
      have hx : w9.cell? ⟨w8.heap.size, r, none⟩ = some (.int .i64 x) := (grown_cell hg hbl (fun h => by simp at h; omega)).trans hx
      clear hs hg
      refine tail_take2 9 rfl (by kernel_rfl) (by kernel_rfl) (by kernel_rfl) (by decide) (fun _ _ _ h => h) (by rfl) (v := ?_) ?_ (by assumption) ?_
      rotate_left 1
      · intro w' hS'; obtain ⟨d0, d1, d2⟩ := hS'; go_simp; try with_reducible rfl
      try simp only [Act.put, List.setIfInBounds_toArray, List.set_cons_zero, List.set_cons_succ]
      refine tail_call 10 rfl (by kernel_rfl) rfl (fun K hK => ?_)
      go_simp
      skip
      refine hK.out _ _ (by (try dsimp only); exact HP9.out.cells) (fun hS' => ?_)
      clear hK K
      try simp only [Act.put, List.setIfInBounds_toArray, List.set_cons_zero, List.set_cons_succ]
      refine tail_take2 11 rfl (by kernel_rfl) (by kernel_rfl) (by kernel_rfl) (by decide) (fun _ _ _ h => h) (by rfl) (v := ?_) ?_ (by assumption) ?_
      rotate_left 1
      · intro w' hS'; obtain ⟨d0, d1, d2⟩ := hS'; go_simp; try with_reducible rfl
      try simp only [Act.put, List.setIfInBounds_toArray, List.set_cons_zero, List.set_cons_succ]
      have fz := HP9.out.own.frozenAt 0
      obtain ⟨xo, hxo⟩ := own_cellP HP9.out.own HNN.out h0n
      have HPa := hide (HP9.out.put 0 x)
      refine tail_call 12 rfl (by kernel_rfl) rfl (fun K hK => ?_)
      go_simp
      skip
      refine hK.out _ _ (by (try dsimp only); exact HPa.out.cells) (fun hS' => ?_)
      clear hK K
      try simp only [Act.put, List.setIfInBounds_toArray, List.set_cons_zero, List.set_cons_succ]
      refine tail_end (by kernel_rfl) ?_
      clear hS'
      obtain ⟨z0, z1, z2⟩ := HPa.out.zr.cells
      obtain ⟨f0, f1, f2⟩ := HPa.out.zr.frozen
      obtain ⟨d0, d1, d2⟩ := HPa.out.cells
      have hzl := HPa.out.zr.lt
      go_wp2_with fail
      exact bodyPost_ret (v := .tuple #[.agg #[.int .i64 p, .int .i64 k, .int .i64 γ], .slice (some ⟨l, 0, none⟩) nn c5]) (by simp [results, Try.results59, go_sem, z0, z1, z2, hzl]) rfl (HPa.out.fin (by rw [List.length_set]; exact HNN.out) hrl (Nat.le_refl _))
    · go_simp
      (go_at_call 57; refine (next_any g Bc A n c code 3 _ HP8.out.src (by omega)).mono ?_; rintro e w9 ⟨y9, rfl, hy90, hy91, hs, hg⟩; have HP9 := hide (HP8.out.next hs hg); clear hs hg)
      refine hK.out _ _ (by (try dsimp only); exact HP9.out.cells) (fun hS' => ?_)
      clear hK K
      try simp only [Act.put, List.setIfInBounds_toArray, List.set_cons_zero, List.set_cons_succ]
      obtain ⟨r, rfl⟩ : ∃ m : Nat, y9 = m := ⟨y9.toNat, by omega⟩
      have hr3 : (r : Int) < 3 := by omega
      obtain ⟨x, hx⟩ : ∃ x, (w9.alloc (.cells #[.int .i64 (-1), .int .i64 (q : Int), .int .i64 ((q : Int) - 1)] 2)).cell? ⟨w9.heap.size, r, none⟩ = some (.int .i64 x) := by
        rw [World.cell?_alloc_at _ _ _ _ rfl]
        rcases (show r = 0 ∨ r = 1 ∨ r = 2 by omega) with rfl | rfl | rfl <;> exact ⟨_, rfl⟩
      have HP9l := hide (HP9.out.alloc (.cells #[.int .i64 (-1), .int .i64 (q : Int), .int .i64 ((q : Int) - 1)] 2))
      refine tail_call 6 rfl (by kernel_rfl) rfl (fun K hK => ?_)
      go_simp
      skip
      refine hK.out _ _ (by (try dsimp only); exact HP9l.out.cells) (fun hS' => ?_)
      clear hK K
      try simp only [Act.put, List.setIfInBounds_toArray, List.set_cons_zero, List.set_cons_succ]
      obtain ⟨wa, hwa⟩ : ∃ wa, w9.alloc (.cells #[.int .i64 (-1), .int .i64 (q : Int), .int .i64 ((q : Int) - 1)] 2) = wa := ⟨_, rfl⟩
      rw [hwa] at hx HP9l hS' ⊢
      clear hwa
      refine tail_take2 9 rfl (by kernel_rfl) (by kernel_rfl) (by kernel_rfl) (by decide) (fun _ _ _ h => h) (by rfl) (v := ?_) ?_ (by assumption) ?_
      rotate_left 1
      · intro w' hS'; obtain ⟨d0, d1, d2⟩ := hS'; go_simp; try with_reducible rfl
      try simp only [Act.put, List.setIfInBounds_toArray, List.set_cons_zero, List.set_cons_succ]
      refine tail_call 10 rfl (by kernel_rfl) rfl (fun K hK => ?_)
      go_simp
      skip
      refine hK.out _ _ (by (try dsimp only); exact HP9l.out.cells) (fun hS' => ?_)
      clear hK K
      try simp only [Act.put, List.setIfInBounds_toArray, List.set_cons_zero, List.set_cons_succ]
      refine tail_take2 11 rfl (by kernel_rfl) (by kernel_rfl) (by kernel_rfl) (by decide) (fun _ _ _ h => h) (by rfl) (v := ?_) ?_ (by assumption) ?_
      rotate_left 1
      · intro w' hS'; obtain ⟨d0, d1, d2⟩ := hS'; go_simp; try with_reducible rfl
      try simp only [Act.put, List.setIfInBounds_toArray, List.set_cons_zero, List.set_cons_succ]
      have fz := HP9l.out.own.frozenAt 0
      obtain ⟨xo, hxo⟩ := own_cellP HP9l.out.own HNN.out h0n
      have HPa := hide (HP9l.out.put 0 x)
      refine tail_call 12 rfl (by kernel_rfl) rfl (fun K hK => ?_)
      go_simp
      skip
      refine hK.out _ _ (by (try dsimp only); exact HPa.out.cells) (fun hS' => ?_)
      clear hK K
      try simp only [Act.put, List.setIfInBounds_toArray, List.set_cons_zero, List.set_cons_succ]
      refine tail_end (by kernel_rfl) ?_
      clear hS'
      obtain ⟨z0, z1, z2⟩ := HPa.out.zr.cells
      obtain ⟨f0, f1, f2⟩ := HPa.out.zr.frozen
      obtain ⟨d0, d1, d2⟩ := HPa.out.cells
      have hzl := HPa.out.zr.lt
      go_wp2_with fail
      exact bodyPost_ret (v := .tuple #[.agg #[.int .i64 p, .int .i64 k, .int .i64 γ], .slice (some ⟨l, 0, none⟩) nn c5]) (by simp [results, Try.results59, go_sem, z0, z1, z2, hzl]) rfl (HPa.out.fin (by rw [List.length_set]; exact HNN.out) hrl (Nat.le_refl _))
  by_cases hy2 : y6 = 2
  · subst hy2
    go_wp2_with fail
    refine (next_any g Bc A n c code (nn : Int) _ HP6.out.src (by omega)).mono ?_
    rintro e w7 ⟨y7, rfl, h70, h71, hs, hg⟩
    have HP7 := hide (HP6.out.next hs hg)
    obtain ⟨r, rfl⟩ : ∃ m : Nat, y7 = m := ⟨y7.toNat, by omega⟩
    have hr : r ≤ nn := by omega
    have hrc : r ≤ c5 := by have := hc5; omega
    have hrcI : (r : Int) ≤ (c5 : Int) := by omega
    have hri : (r : Int) ≤ (nn : Int) := by omega
    clear hs hg h70 h71 HP6
    obtain ⟨z0, z1, z2⟩ := HP7.out.zr.cells
    obtain ⟨f0, f1, f2⟩ := HP7.out.zr.frozen
    obtain ⟨d0, d1, d2⟩ := HP7.out.cells
    have hzl := HP7.out.zr.lt
    go_wp2_with fail
    exact bodyPost_ret (v := .tuple #[.agg #[.int .i64 p, .int .i64 k, .int .i64 γ], .slice (some ⟨l, 0, none⟩) r c5]) (by simp [results, Try.results59, go_sem, z0, z1, z2, hzl]) rfl (HP7.out.fin HNN.out hrl hr)
  · have b0 : (y6 == 0) = false := by simpa using hy0
    have b1 : (y6 == 1) = false := by simpa using hy1
    have b2 : (y6 == 2) = false := by simpa using hy2
    clear hy0 hy1 hy2
    obtain ⟨z0, z1, z2⟩ := HP6.out.zr.cells
    obtain ⟨f0, f1, f2⟩ := HP6.out.zr.frozen
    obtain ⟨d0, d1, d2⟩ := HP6.out.cells
    have hzl := HP6.out.zr.lt
    go_wp2_with fail
    exact bodyPost_ret (v := .tuple #[.agg #[.int .i64 p, .int .i64 k, .int .i64 γ], .slice (some ⟨l, 0, none⟩) nn c5]) (by simp [results, Try.results59, go_sem, z0, z1, z2, hzl]) rfl (HP6.out.fin HNN.out hrl (Nat.le_refl _))
end Go.Proofs.Ythmpfnbcodolcaa

namespace Go.Proofs.Ythmpfnbcodolcaa
open Go Go.RowKit
set_option linter.unusedSimpArgs false
set_option linter.unusedVariables false

theorem sgR_zero {zs : List Int} : ∀ f k, (sgR zs f k).2 ≠ 0 → (sgR zs f k).1 = 0 := by
  intro f
  induction f with
  | zero => intro k h; rfl
  | succ f ih =>
    intro k h
    rw [sgR] at h ⊢
    split at h
    · split at h
      · split at h
        · rename_i a b c; rw [if_pos a, if_pos b, if_pos c]
        · rename_i a b c; rw [if_pos a, if_pos b, if_neg c]; exact ih (k + 1) h
      · rename_i a b; rw [if_pos a, if_neg b]
    · exact absurd rfl h
theorem pg_zero {q : Nat} {zs : List Int} (h : pgK q zs ≠ 0) : pgN q zs = 0 := by
  unfold pgK at h
  unfold pgN
  split
  · rename_i he
    rw [if_pos he] at h
    exact sgR_zero _ _ h
  · rfl
/-- What the functions of payloads say of a field and a list. -/
theorem pdp_both (p k g : Int) (z : List Int) (hz : z.length ≤ 1048576) : ∃ (n : Nat) (M : Nat → Int) (T : Nat → ByteArray) (cd : Int) (s : ByteArray), n ≤ 400 ∧ (cd ≠ 0 → n = 0) ∧ (cd = 0 → jsCode M T n = 0 ∧ jsOf M T n = s ∧ ∀ j, j < n → (T j).size ≤ 255) ∧
    (∀ (A : Option Addr) (m c0 B : Nat) (w : World), Ints .i64 w B A m z → B ≤ w.heap.size → Calls Try.prog 25 #[.agg #[.int .i64 p, .int .i64 k, .int .i64 g], .slice A m c0] w (GivSI s cd w)) ∧
    (∀ (A : Option Addr) (m c0 B : Nat) (w : World), Ints .i64 w B A m z → B ≤ w.heap.size → Calls Try.prog 24 #[.agg #[.int .i64 p, .int .i64 k, .int .i64 g], .slice A m c0] w (GivSI s cd w)) ∧
    (∀ (A : Option Addr) (m c0 B : Nat) (w : World), Ints .i64 w B A m z → B ≤ w.heap.size → Calls Try.prog 26 #[.agg #[.int .i64 p, .int .i64 k, .int .i64 g], .slice A m c0] w (NewSI n M T cd w)) := by
  rcases hb : fieldB p k g with _ | _
  · exact ⟨0, fun _ => 0, fun _ => ⟨#[]⟩, 1, ⟨#[]⟩, by omega, fun _ => rfl, fun h => by omega, fun A n c0 w _ _ _ => dp_noS hb A n c0 _, fun A n c0 w _ _ _ => dp_noI hb A n c0 _, fun A n c0 w _ _ _ => pgs_noI hb A n c0 _ _ _⟩
  · obtain ⟨q, mul, γ, hK, _⟩ := fieldB_open hb
    obtain ⟨d1, d2, d3⟩ := dp_js q z
    exact ⟨_, _, _, _, _, pgN_le q z, pg_zero, fun h => ⟨d3, by rw [js_out d3]; unfold dpS; rw [if_pos h], d2⟩, fun A n c0 B w hI hB => specDp hb hK A n c0 B z w hI hB (by rw [← hI.len]; exact hz), fun A n c0 B w hI hB => implDp hb hK A n c0 B z w hI hB (by rw [← hI.len]; exact hz),
      fun A n c0 B w hI hB => implPgs hb hK A n c0 B z w hI hB (by rw [← hI.len]; exact hz)⟩
/-- What the draw leaves. -/
def DrawnPA (w : World) (x : Ending) (w' : World) : Prop :=
  ∃ (p k γ : Int) (zs : List Int) (A1 : Option Addr) (n1 c1 : Nat), x = .returned (.tuple #[.agg #[.int .i64 p, .int .i64 k, .int .i64 γ], .slice A1 n1 c1]) ∧ n1 ≤ 1500 ∧ Ints .i64 w' w'.heap.size A1 n1 zs ∧ Below w.heap.size w w'

set_option maxRecDepth 100000 in
set_option maxHeartbeats 2000000 in
theorem drawDecPay (A : Option Addr) (n c : Nat) (code : List Int) (w : World) (hI : Ints .u8 w w.heap.size A n code) (hn : n ≤ 4096) (hby : ∀ b ∈ code, 0 ≤ b ∧ b ≤ 255) :
    Calls Try.prog 23 #[.slice A n c] w (DrawnPA w) := by
  have HI := hide hI
  have HBY := hide hby
  have HZ := hide (Zero3.start w)
  have HB0 := hide ((Below.refl w.heap.size w).alloc (Nat.le_refl _) (.cells #[.int .i64 0, .int .i64 0, .int .i64 0] 38))
  obtain ⟨w0, hw0⟩ : ∃ w0, w.alloc (.cells #[.int .i64 0, .int .i64 0, .int .i64 0] 38) = w0 := ⟨_, rfl⟩
  rw [hw0] at HZ HB0
  have HI0 := hide (show Ints .u8 w0 w0.heap.size A n code from (HI.out.below HB0.out).more HB0.out.size)
  clear hI hby
  go_enter Try.func23, Try.ntmps23
  go_wp2_with fail
  refine (from_any A n c code w0 HI0.out hn HBY.out).mono ?_
  rintro e w1 ⟨rfl, hs1, hb1⟩
  have HS1 := hide hs1
  have HZ1 := hide (HZ.out.below hb1)
  have HB1 := hide (HB0.out.trans (hb1.mono HB0.out.size))
  clear hs1 hb1
  go_wp2_with fail
  refine (drawPay _ _ A n c code w1 HS1.out).mono ?_
  rintro e w2 ⟨p, k, γ, zs, A1, n1, c1, rfl, hn1, hi, hbk, hs, hg⟩
  have hle : w.heap.size < w0.heap.size := HZ.out.lt
  have HZ2 := hide (HZ1.out.grown hg (by omega))
  have hl1 := HZ1.out.lt
  have HB2 := hide (HB1.out.grown hg HB1.out.size (fun r hr => by cases hr; exact Nat.le_of_lt hle))
  have HI2 := hide hi
  have HBK := hide hbk
  clear hs hg hi hbk
  obtain ⟨z0, z1, z2⟩ := HZ2.out.cells
  obtain ⟨f0, f1, f2⟩ := HZ2.out.frozen
  have hzl := HZ2.out.lt
  go_wp2_with fail
  refine bodyPost_ret (v := .tuple #[.agg #[.int .i64 p, .int .i64 k, .int .i64 γ], .slice A1 n1 c1]) (by simp [results, Try.results23, go_sem, z0, z1, z2, hzl]) rfl ⟨p, k, γ, zs, A1, n1, c1, rfl, hn1, ?_, ?_⟩
  · have hg3 : w2.grownBy (((w2.setCell ⟨w.heap.size, 0, none⟩ (.int .i64 p)).setCell ⟨w.heap.size, 1, none⟩ (.int .i64 k)).setCell ⟨w.heap.size, 2, none⟩ (.int .i64 γ)) (some w.heap.size) := grown_set (grown_set (grown_set (World.grownBy.refl _ _) 0 _) 1 _) 2 _
    refine ⟨HI2.out.len, fun hp => ?_⟩
    obtain ⟨b', off', e, hb, hcl⟩ := HI2.out.2 hp
    have h1 := HBK.out _ e
    exact ⟨b', off', e, Nat.lt_of_lt_of_le hb hg3.size, fun i y hy => (grown_cell hg3 hb (fun e2 => by injection e2 with e2; have : w1.heap.size ≤ b' := h1; have : w.heap.size = b' := e2; omega)).trans (hcl i y hy)⟩
  · exact ((HB2.out.setCell (p := ⟨w.heap.size, 0, none⟩) (Nat.le_refl _) _).setCell (p := ⟨w.heap.size, 1, none⟩) (Nat.le_refl _) _).setCell (p := ⟨w.heap.size, 2, none⟩) (Nat.le_refl _) _
end Go.Proofs.Ythmpfnbcodolcaa
