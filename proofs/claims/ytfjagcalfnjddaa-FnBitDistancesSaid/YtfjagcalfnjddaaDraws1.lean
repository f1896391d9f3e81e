/-
  The contracts of the draws of chapter 1.
  Condition: the code has at most 4096 bytes.
-/
import Derived.Test.YtfjagcalfnjddaaDrawBits
namespace Go.Proofs.Ytfjagcalfnjddaa
open Go.RowKit

def DrawnAppend (w : World) (x : Ending) (w' : World) : Prop :=
  ∃ (zs : List Int) (v : Value) (val wd : Int), x = .returned (.tuple #[v, .int .i64 val, .int .i64 wd]) ∧ zs.length ≤ 10000 ∧ -1 ≤ val ∧ val ≤ 4096 ∧ Own w' w.heap.size 2 .i64 v zs ∧ Below w.heap.size w w'
def DrawnV (w : World) (x : Ending) (w' : World) : Prop :=
  ∃ (zs : List Int) (v : Value), x = .returned v ∧ zs.length ≤ 10000 ∧ Own w' w.heap.size 2 .i64 v zs ∧ Below w.heap.size w w'
def DrawnVV (w : World) (x : Ending) (w' : World) : Prop :=
  ∃ (za zb : List Int) (va vb : Value), x = .returned (.tuple #[va, vb]) ∧ za.length ≤ 10000 ∧ zb.length ≤ 10000 ∧ Own w' w.heap.size 2 .i64 va za ∧ Own w' w.heap.size 2 .i64 vb zb ∧ Below w.heap.size w w'

theorem below_src {w w1 w2 : World} (h : Below w.heap.size w w1) (hg : w1.grownBy w2 (some w.heap.size)) : Below w.heap.size w w2 :=
  h.grown hg h.size (fun k hk => by injection hk; omega)

set_option maxHeartbeats 1000000 in
theorem drawStringOf (A : Option Addr) (n c : Nat) (code : List Int) (w : World) (hI : Ints .u8 w w.heap.size A n code) (hn : n ≤ 4096) (hby : ∀ b ∈ code, 0 ≤ b ∧ b ≤ 255) :
    Calls Try.prog 21 #[.slice A n c] w (DrawnV w) := by
  have HI := hide hI
  have HBY := hide hby
  clear hI hby
  go_enter Try.func21, Try.ntmps21
  go_wp2_with fail
  refine (from_any A n c code w HI hn HBY).mono ?_
  rintro e w1 ⟨rfl, hs, hb⟩
  have HS := hide hs
  have HB := hide hb
  have hlt := hs.lt
  clear hs hb
  go_wp2_with fail
  refine (next_any w.heap.size w.heap.size A n c code 4 w1 HS (by omega)).mono ?_
  rintro e w2 ⟨y, rfl, hy0, hy1, hs, hg⟩
  have HS2 := hide hs
  have HB2 := hide (below_src HB.out hg)
  have hlt2 : w.heap.size < w2.heap.size := hs.lt
  clear hs hg
  by_cases h0 : y = 0
  · subst h0
    go_wp2_with fail
    refine (drawBits w.heap.size w.heap.size A n c code 20 w2 HS2 (by omega) (by omega)).mono ?_
    rintro e w3 ⟨zs, v, rfl, hz, hzb, hO, hs, hg⟩
    have HO := hide hO
    have HB3 := hide (below_src HB2.out hg)
    clear hO hs hg hzb
    go_wp2_with fail
    go_ret
    exact ⟨zs, v, rfl, hz, HO.out.base_le HB2.out.size, HB3⟩
  · have e0 : (y == 0) = false := by simpa using h0
    go_wp2_with fail
    refine (drawString w.heap.size w.heap.size A n c code 4 w2 HS2 (by omega) (by omega)).mono ?_
    rintro e w3 ⟨s, rfl, hs1, hs, hg⟩
    have HB3 := hide (below_src HB2.out hg)
    clear hs hg
    go_wp2_with fail
    refine (specBitsL s w3 (by omega)).mono ?_
    rintro e w4 ⟨v, rfl, hO, hb4⟩
    have HO := hide hO
    have HB4 := hide (HB3.out.trans (hb4.mono HB3.out.size))
    clear hO hb4
    go_wp2_with fail
    go_ret
    exact ⟨_, v, rfl, by rw [strBits_len, bytesI_len]; omega, HO.out.base_le HB3.out.size, HB4⟩

set_option maxHeartbeats 1000000 in
theorem drawAppend (A : Option Addr) (n c : Nat) (code : List Int) (w : World) (hI : Ints .u8 w w.heap.size A n code) (hn : n ≤ 4096) (hby : ∀ b ∈ code, 0 ≤ b ∧ b ≤ 255) :
    Calls Try.prog 16 #[.slice A n c] w (DrawnAppend w) := by
  have HI := hide hI
  have HBY := hide hby
  clear hI hby
  go_enter Try.func16, Try.ntmps16
  go_wp2_with fail
  refine (from_any A n c code w HI hn HBY).mono ?_
  rintro e w1 ⟨rfl, hs, hb⟩
  have HS := hide hs
  have HB := hide hb
  clear hs hb
  go_wp2_with fail
  refine (drawBits w.heap.size w.heap.size A n c code 20 w1 HS (by omega) (by omega)).mono ?_
  rintro e w2 ⟨zs, v, rfl, hz, hzb, hO, hs, hg⟩
  have HS2 := hide hs
  have HO2 := hide hO
  have HB2 := hide (below_src HB.out hg)
  have HN := hide (own_src hO HS.out.lt)
  clear hO hs hg hzb
  go_wp2_with fail
  refine (next_any w.heap.size w.heap.size A n c code 12 w2 HS2 (by omega)).mono ?_
  rintro e w3 ⟨y, rfl, hy0, hy1, hs, hg⟩
  have HS3 := hide hs
  have HO3 := hide (HO2.out.grown hg HN)
  have HB3 := hide (below_src HB2.out hg)
  clear hs hg
  obtain ⟨d, rfl⟩ : ∃ d : Nat, y = d := ⟨y.toNat, by omega⟩
  have hd : d ≤ 11 := by omega
  clear hy0 hy1
  obtain ⟨pw, hpw, he, hp1, hp2⟩ := pow_fits d (by omega)
  have hp3 : pw ≤ 2048 := by
    rw [he]
    have : (2 : Int) ^ d ≤ 2 ^ 11 := by exact_mod_cast Nat.pow_le_pow_right (by decide) hd
    exact this
  clear he
  go_wp2_with fail
  refine (next_any w.heap.size w.heap.size A n c code pw w3 HS3 (by omega)).mono ?_
  rintro e w4 ⟨val, rfl, hv0, hv1, hs, hg⟩
  have HS4 := hide hs
  have HO4 := hide (HO3.out.grown hg HN)
  have HB4 := hide (below_src HB3.out hg)
  clear hs hg
  go_wp2_with fail
  refine (next_any w.heap.size w.heap.size A n c code 16 w4 HS4 (by omega)).mono ?_
  rintro e w5 ⟨x, rfl, hx0, hx1, hs, hg⟩
  have HS5 := hide hs
  have HO5 := hide (HO4.out.grown hg HN)
  have HB5 := hide (below_src HB4.out hg)
  have hlt5 : w.heap.size < w5.heap.size := hs.lt
  clear hs hg
  by_cases h0 : x = 0
  · subst h0
    go_wp2_with fail
    refine (next_any w.heap.size w.heap.size A n c code 4 _ (HS5.out.still (World.grownBy_alloc w5 _ none) (by simp)) (by omega)).mono ?_
    rintro e w6 ⟨q, rfl, hq0, hq1, hs, hg⟩
    obtain ⟨q, rfl⟩ : ∃ r : Nat, q = r := ⟨q.toNat, by omega⟩
    obtain ⟨z, hz⟩ : ∃ z, w6.cell? ⟨w5.heap.size, q, none⟩ = some (.int .i64 z) := by
      rw [grown_cell hg (by simp) (fun h => by simp at h; omega), World.cell?_alloc_at _ _ _ _ rfl]
      rcases (show q = 0 ∨ q = 1 ∨ q = 2 ∨ q = 3 by omega) with rfl | rfl | rfl | rfl <;> exact ⟨_, rfl⟩
    have HO6 := hide ((HO5.out.alloc _).grown hg HN)
    have HB6 := hide (below_src (HB5.out.alloc HB5.out.size _) hg)
    clear hs hg
    go_wp2_with fail
    go_ret3
    exact ⟨zs, v, val, z, rfl, by assumption, by omega, by omega, HO6.out.base_le HB.out.size, HB6⟩
  · by_cases h1 : x = 1
    · subst h1
      go_wp2_with fail
      refine (next_any w.heap.size w.heap.size A n c code 3 _ (HS5.out.still (World.grownBy_alloc w5 _ none) (by simp)) (by omega)).mono ?_
      rintro e w6 ⟨q, rfl, hq0, hq1, hs, hg⟩
      obtain ⟨q, rfl⟩ : ∃ r : Nat, q = r := ⟨q.toNat, by omega⟩
      obtain ⟨z, hz, hz0, hz1⟩ : ∃ z, w6.cell? ⟨w5.heap.size, q, none⟩ = some (.int .i64 z) ∧ -1 ≤ z ∧ z ≤ 4096 := by
        rw [grown_cell hg (by simp) (fun h => by simp at h; omega), World.cell?_alloc_at _ _ _ _ rfl]
        rcases (show q = 0 ∨ q = 1 ∨ q = 2 by omega) with rfl | rfl | rfl
        · exact ⟨_, rfl, by omega, by omega⟩
        · exact ⟨_, rfl, by omega, by omega⟩
        · exact ⟨_, rfl, by omega, by omega⟩
      have HO6 := hide ((HO5.out.alloc _).grown hg HN)
      have HB6 := hide (below_src (HB5.out.alloc HB5.out.size _) hg)
      clear hs hg
      go_wp2_with fail
      go_ret3
      exact ⟨zs, v, z, d, rfl, by assumption, by omega, by omega, HO6.out.base_le HB.out.size, HB6⟩
    · have e0 : (x == 0) = false := by simpa using h0
      have e1 : (x == 1) = false := by simpa using h1
      go_wp2_with fail
      go_ret3
      exact ⟨zs, v, val, d, rfl, by assumption, by omega, by omega, HO5.out.base_le HB.out.size, HB5⟩

def FlipRel (base g Bc : Nat) (A : Option Addr) (n c : Nat) (code : List Int) (m : Nat) (va vb : Value) (za : List Int) (w : World) (i : Value) (wr : World) : Prop :=
  ∃ (k : Nat) (zb : List Int), k ≤ m ∧ i = .int .i64 k ∧ zb.length = m ∧ (∀ y ∈ zb, -1 ≤ y ∧ y ≤ 2) ∧ Own wr base 2 .i64 vb zb ∧ Own wr w.heap.size 2 .i64 va za ∧ Src wr g Bc A n c code ∧ Below w.heap.size w wr

theorem set_bd {zb : List Int} {k : Nat} {x : Int} (h : ∀ y ∈ zb, -1 ≤ y ∧ y ≤ 2) (hx : -1 ≤ x ∧ x ≤ 2) : ∀ y ∈ zb.set k x, -1 ≤ y ∧ y ≤ 2 := by
  intro y hy
  rcases List.mem_or_eq_of_mem_set hy with h1 | h1
  · exact h y h1
  · rw [h1]; exact hx

set_option maxHeartbeats 1000000 in
theorem ownList (A : Option Addr) (n c B : Nat) (zs : List Int) (w : World) (hI : Ints .i64 w B A n zs) (hB : B ≤ w.heap.size) (hn : n ≤ 1099511627776) :
    Calls Try.prog 54 #[.slice A n c] w (Longer 2 .i64 w.heap.size zs w) := by
  have HI := hide hI
  clear hI
  go_enter Try.func54, Try.ntmps54
  go_wp2_with (at_builtin; refine wpList_appL _ rfl _ _ _ rfl elem64 w.heap.size _ [] rfl (Own.lit0 w _ _) B A n c zs rfl (HI.out.below ((Below.refl B w).alloc hB _)) (by simp; omega) (by simp) ?_; intro v2 w2 hown hgr)
  have HO := hide (show Own w2 w.heap.size 2 .i64 v2 zs by simpa using hown)
  have HBl := hide (((Below.refl w.heap.size w).alloc (Nat.le_refl _) _).grown hgr (by simp) (fun g hg => ((Own.lit0 w 2 .i64).lt hg).1))
  clear hown hgr
  go_wp2_with fail
  go_ret
  exact ⟨_, rfl, HO, HBl⟩

set_option maxHeartbeats 1000000 in
theorem drawDist (A : Option Addr) (n c : Nat) (code : List Int) (w : World) (hI : Ints .u8 w w.heap.size A n code) (hn : n ≤ 4096) (hby : ∀ b ∈ code, 0 ≤ b ∧ b ≤ 255) :
    Calls Try.prog 29 #[.slice A n c] w (DrawnVV w) := by
  have HI := hide hI
  have HBY := hide hby
  clear hI hby
  go_enter Try.func29, Try.ntmps29
  go_wp2_with fail
  refine (from_any A n c code w HI hn HBY).mono ?_
  rintro e w1 ⟨rfl, hs, hb⟩
  have HS := hide hs
  have HB := hide hb
  clear hs hb
  go_wp2_with fail
  refine (drawBits w.heap.size w.heap.size A n c code 20 w1 HS (by omega) (by omega)).mono ?_
  rintro e w2 ⟨za, va, rfl, hza, hzb, hO, hs, hg⟩
  have HZA := hide hzb
  have HS2 := hide hs
  have HO2 := hide hO
  have HB2 := hide (below_src HB.out hg)
  have HN := hide (own_src hO HS.out.lt)
  clear hO hs hg hzb
  go_wp2_with fail
  refine (next_any w.heap.size w.heap.size A n c code 6 w2 HS2 (by omega)).mono ?_
  rintro e w3 ⟨y, rfl, hy0, hy1, hs, hg⟩
  have HS3 := hide hs
  have HO3 := hide ((HO2.out.grown hg HN).base_le HB.out.size)
  have HB3 := hide (below_src HB2.out hg)
  clear hs hg
  by_cases h0 : y = 0
  · subst h0
    go_wp2_with fail
    refine (drawBits w.heap.size w.heap.size A n c code 20 w3 HS3 (by omega) (by omega)).mono ?_
    rintro e w4 ⟨zb, vb, rfl, hzb, _, hO, hs, hg⟩
    have HO4 := hide (hO.base_le HB3.out.size)
    have HA4 := hide (HO3.out.grown hg HN)
    have HB4 := hide (below_src HB3.out hg)
    clear hO hs hg
    go_wp2_with fail
    go_ret2
    exact ⟨za, zb, va, vb, rfl, hza, hzb, HA4, HO4, HB4⟩
  · have e0 : (y == 0) = false := by simpa using h0
    obtain ⟨Aa, ca, rfl, hca⟩ := HO3.out.form
    go_wp2_with fail
    refine (ownList Aa _ ca w3.heap.size za w3 HO3.out.ints (Nat.le_refl _) (by omega)).mono ?_
    rintro e w4 ⟨vb, rfl, hO, hb4⟩
    have HS4 := hide (HS3.out.below hb4 HS3.out.lt)
    have HA4 := hide (HO3.out.below hb4 (Nat.le_refl _))
    have HB4 := hide (HB3.out.trans (hb4.mono HB3.out.size))
    have HO4 := hide hO
    have HNb := hide (own_src hO HS3.out.lt)
    have HNab := hide (HO3.out.ne hO (Nat.le_refl _))
    have hlt3 : w.heap.size < w3.heap.size := HS3.out.lt
    clear hO hb4
    obtain ⟨Ab, cb, rfl, hcb⟩ := HO4.out.form
    clear hca hcb hy0 hy1 h0 e0
    go_wp2_with fail
    go_loopw [7] (fun i wr => FlipRel w3.heap.size w.heap.size w.heap.size A n c code za.length (.slice Aa za.length ca) (.slice Ab za.length cb) za w i wr) (fun i _ => za.length - (intOf i).toNat)
    case atStart => exact ⟨0, za, by omega, rfl, rfl, HZA, HO4, HA4, HS4, HB4⟩
    case round =>
      clear HO4 HA4 HS4 HB4
      obtain ⟨k, zb, hk, rfl, hzl, hzr, hOb, hOa, hSr, hBl⟩ := hrel
      have HL := hide hzl
      have HZ := hide hzr
      have HOb := hide hOb
      have HOa := hide hOa
      have HSr := hide hSr
      have HBl := hide hBl
      clear hzl hzr hOb hOa hSr hBl
      by_cases hlt : k < za.length
      · by_cases h100 : k < 100
        · have z64 : (k : Int) < 100 := by omega
          have z1 : (k : Int) < (za.length : Int) := by omega
          go_wp2_with fail
          refine (next_any w.heap.size w.heap.size A n c code 3 wr HSr (by omega)).mono ?_
          rintro e w5 ⟨y, rfl, hy0, hy1, hs, hg⟩
          have HS5 := hide hs
          have HOb5 := hide (HOb.out.grown hg HNb)
          have HOa5 := hide (HOa.out.grown hg HN)
          have HB5 := hide (below_src HBl.out hg)
          clear hs hg
          by_cases h0 : y = 0
          · subst h0
            obtain ⟨gb, c', hv, hg1, hg2, hg3⟩ := HOb5.out.some_ (by rw [HL.out]; omega)
            simp only [Value.slice.injEq] at hv
            obtain ⟨rfl, hv1, hv2⟩ := hv
            clear hv1 hv2 hg3
            have hk2 : k < zb.length := by rw [HL.out]; exact hlt
            have HX := hide (List.getElem?_eq_getElem hk2)
            have hxb := HZ.out _ (List.getElem_mem hk2)
            generalize zb[k] = x at HX hxb
            obtain ⟨hx0, hx1⟩ := hxb
            have hc2 : w5.cell? ⟨gb, k, none⟩ = some (.int .i64 x) := HOb5.out.cellAt HX
            have hf2 : w5.frozen? ⟨gb, k, none⟩ = false := HOb5.out.frozenAt k
            have hgb : w.heap.size < gb := by omega
            clear hk2 hg1 hg2
            go_wp2_with fail
            go_roundw
            case rel =>
              have hst := HOb5.out.stored k (1 - x)
              exact ⟨k + 1, zb.set k (1 - x), by omega, by go_num, by rw [List.length_set]; exact HL, set_bd HZ.out (by omega), hst.1, HOa5.out.grown hst.2 HNab, HS5.out.still hst.2 (fun r hr => by injection hr; omega), HB5.out.setCell (Nat.le_of_lt hgb) _⟩
            case measure => simp [intOf]; omega
          · have e0 : (y == 0) = false := by simpa using h0
            go_wp2_with fail
            go_roundw
            case rel => exact ⟨k + 1, zb, by omega, by go_num, HL, HZ, HOb5, HOa5, HS5, HB5⟩
            case measure => simp [intOf]; omega
        · have hd : decide ((k : Int) < 100) = false := by simp; omega
          have z1 : (k : Int) < (za.length : Int) := by omega
          go_wp2_with fail
          go_ret2
          exact ⟨za, zb, _, _, rfl, hza, by rw [HL.out]; exact hza, HOa, HOb.out.base_le (Nat.le_of_lt hlt3), HBl⟩
      · have hd : decide ((k : Int) < (za.length : Int)) = false := by simp; omega
        go_wp2_with fail
        go_ret2
        exact ⟨za, zb, _, _, rfl, hza, by rw [HL.out]; exact hza, HOa, HOb.out.base_le (Nat.le_of_lt hlt3), HBl⟩
end Go.Proofs.Ytfjagcalfnjddaa
