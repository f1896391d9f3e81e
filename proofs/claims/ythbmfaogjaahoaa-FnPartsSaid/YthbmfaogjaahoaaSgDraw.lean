/-
  The model's draws of texts, of a mode and a byte, and of a text for NarrowestMode: anything may come, within bounds.
  Condition: the code has at most 4096 bytes.
-/
import Derived.Test.YthbmfaogjaahoaaDrawK
import Derived.Test.YthbmfaogjaahoaaBox
import Derived.Test.YthbmfaogjaahoaaSg2
import Derived.Test.YthbmfaogjaahoaaTail2
namespace Go.Proofs.Ythbmfaogjaahoaa
open Go.RowKit
set_option linter.unusedSimpArgs false
set_option linter.unusedVariables false

/-- What a draw of a text leaves. -/
def DrawnT (g Bc : Nat) (A : Option Addr) (n c : Nat) (code : List Int) (w : World) (x : Ending) (w' : World) : Prop :=
  ∃ s : ByteArray, x = .returned (.string s) ∧ s.size ≤ 1001 ∧ Src w' g Bc A n c code ∧ w.grownBy w' (some g)

set_option maxRecDepth 100000 in
set_option maxHeartbeats 2000000 in
theorem drawText (g Bc : Nat) (A : Option Addr) (n c : Nat) (code : List Int) (mode most : Int) (w : World) (hS : Src w g Bc A n c code) (hmo : 1 ≤ mode ∧ mode ≤ 4) (hm0 : 0 ≤ most) (hm1 : most ≤ 1000) :
    Calls Try.prog 93 #[.pointer (some ⟨g, 0, none⟩), .int .i64 mode, .int .i64 most] w (DrawnT g Bc A n c code w) := by
  have HS := hide hS
  have hg := hS.lt
  clear hS
  go_enter Try.func93, Try.ntmps93
  go_wp2_with fail
  refine (next_any g Bc A n c code _ _ (HS.out.still (World.grownBy_alloc w _ none) (by simp)) (by omega)).mono ?_
  rintro e w1 ⟨y, rfl, hy0, hy1, hs1, hg1⟩
  have HS1 := hide hs1
  have HG1 := hide (grown_trans (World.grownBy_alloc w _ (some g)) hg1)
  have HO1 := hide ((Own.lit0 w 5 .u8).grown hg1 (own_src (w := w) (Own.lit0 w 5 .u8) hg))
  clear hs1 hg1
  go_wp2_with fail
  go_loopw [7, 8] (fun v i wr => DrawRel g Bc A n c code 5 .u8 1001 0 255 w v i wr) (fun _ i _ => (intOf i).toNat)
  case atStart => exact ⟨[], y, rfl, hy0, by simp; omega, by simp, HO1, HS1, HG1⟩
  case round =>
    clear HO1 HS1 HG1
    obtain ⟨v, hvv⟩ : ∃ v : Value, v = u7 := ⟨_, rfl⟩
    subst hvv
    obtain ⟨zs, t, rfl, ht0, ht1, hzs, hOwn, hSrc, hgr⟩ := hrel
    have HZ := hide hzs
    have HO := hide hOwn
    have HSr := hide hSrc
    have HG := hide hgr
    clear hzs hOwn hSrc hgr
    have hbz : w.heap.size ≤ wr.heap.size := HG.out.size
    by_cases hpos : 0 < t
    · by_cases h4 : mode = 4
      · have e4 : (mode == 4) = true := by simpa using h4
        clear h4
        go_wp2_with fail
        refine (next_any g Bc A n c code 256 wr HSr (by omega)).mono ?_
        rintro e w2 ⟨x, rfl, hx0, hx1, hs2, hg2⟩
        have HS2 := hide hs2
        have HG2 := hide hg2
        have HO2 := hide (HO.out.grown hg2 (own_src HO.out hg))
        have hbz2 : w.heap.size ≤ w2.heap.size := Nat.le_trans hbz hg2.size
        have hx2 : x ≤ 255 := by omega
        have hwx : IntKind.u8.wrap x = x := by rw [IntKind.wrap_u8]; omega
        clear hs2 hg2
        go_wp2_with (at_builtin; refine wpList_app1 w2 rfl _ _ _ rfl elem8 w.heap.size v _ rfl HO2.out x rfl (by omega) hbz2 ?_; intro v3 w3 hown3 hgr3)
        have HO3 := hide hown3
        have HG3 := hide (grown_more (grown_trans HG.out HG2.out) hgr3 (fun r hr => (HO2.out.lt hr).1))
        have HS3 := hide (HS2.out.still hgr3 (fun r hr => by have := (HO2.out.lt hr).1; omega))
        clear hown3 hgr3
        go_wp2_with fail
        go_roundw
        case rel =>
          refine ⟨zs ++ [x], t - 1, by go_num, by omega, by simp; omega, ?_, HO3, HS3, HG3⟩
          intro q hq
          rcases List.mem_append.1 hq with h | h
          · exact HZ.out q h
          · simp at h; subst h; omega
        case measure => simp [intOf]; omega
      · have e4 : (mode == 4) = false := by simpa using h4
        have hm3 : mode = 1 ∨ mode = 2 ∨ mode = 3 := by omega
        have hgs := stS_size hm3
        have hgl : 10 ≤ gbase mode ∧ gbase mode ≤ 45 := by rcases hm3 with rfl | rfl | rfl <;> decide
        have HSET := hide (specSet mode)
        obtain ⟨st, hst⟩ : ∃ st, stS mode = st := ⟨_, rfl⟩
        rw [hst] at hgs HSET
        rw [← hgs] at hgl
        clear hgs hst hm3 h4
        go_wp2_with fail
        refine (HSET.out _).mono ?_
        rintro e wz ⟨rfl, hwz⟩
        rw [hwz]
        clear hwz
        go_wp2_with fail
        refine (next_any g Bc A n c code (st.size : Nat) wr HSr (by omega)).mono ?_
        rintro e w2 ⟨x, rfl, hx0, hx1, hs2, hg2⟩
        obtain ⟨x, rfl⟩ : ∃ q : Nat, x = q := ⟨x.toNat, by omega⟩
        have HS2 := hide hs2
        have HG2 := hide hg2
        have HO2 := hide (HO.out.grown hg2 (own_src HO.out hg))
        have hbz2 : w.heap.size ≤ w2.heap.size := Nat.le_trans hbz hg2.size
        have hx2 : x < st.size := by omega
        obtain ⟨q, hq, _, hq0, hq1⟩ := byteAt st hx2
        clear hs2 hg2 hx1
        go_wp2_with (at_builtin; refine wpList_app1 w2 rfl _ _ _ rfl elem8 w.heap.size v _ rfl HO2.out q rfl (by omega) hbz2 ?_; intro v3 w3 hown3 hgr3)
        have HO3 := hide hown3
        have HG3 := hide (grown_more (grown_trans HG.out HG2.out) hgr3 (fun r hr => (HO2.out.lt hr).1))
        have HS3 := hide (HS2.out.still hgr3 (fun r hr => by have := (HO2.out.lt hr).1; omega))
        clear hown3 hgr3
        go_wp2_with fail
        go_roundw
        case rel =>
          refine ⟨zs ++ [q], t - 1, by go_num, by omega, by simp; omega, ?_, HO3, HS3, HG3⟩
          intro q' hq'
          rcases List.mem_append.1 hq' with h | h
          · exact HZ.out q' h
          · simp at h; subst h; omega
        case measure => simp [intOf]; omega
    · obtain ⟨A1, c1, rfl, hc1⟩ := HO.out.form
      have hconv := run_str wr elem8 Try.underlying5 Try.underlying9 c1 HO.out.ints
      clear hc1
      go_wp2_with fail
      go_ret
      exact ⟨strOf zs, rfl, by rw [strOf_size]; omega, HSr, HG⟩

/-- In a draw that has made its source in the first new block. -/
def Dn (w : World) (A : Option Addr) (n c : Nat) (code : List Int) (W : World) : Prop := Src W w.heap.size w.heap.size A n c code ∧ Below w.heap.size w W
theorem dn_below {w : World} {A : Option Addr} {n c : Nat} {code : List Int} {W W' : World} (h : Dn w A n c code W) (hg : W.grownBy W' (some w.heap.size)) : Below w.heap.size w W' :=
  h.2.grown hg h.2.size (fun r hr => by cases hr; exact Nat.le_refl _)
theorem dn_alloc {w : World} {A : Option Addr} {n c : Nat} {code : List Int} {W : World} (h : Dn w A n c code W) (o : Obj) : Dn w A n c code (W.alloc o) :=
  ⟨h.1.still (World.grownBy_alloc W o none) (by simp), h.2.alloc h.2.size o⟩
theorem dn_drew {w : World} {A : Option Addr} {n c : Nat} {code : List Int} {W : World} (h : Dn w A n c code W) : Dn w A n c code W.drew := ⟨h.1, h.2.drew⟩
theorem four_cells {W : World} {b : Nat} (h : W.heap[b]? = some (.cells #[.int .i64 (-1), .int .i64 0, .int .i64 255, .int .i64 256] 2 (0, 0))) (y : Nat) (hy : y < 4) : ∃ v : Int, W.cell? ⟨b, y, none⟩ = some (.int .i64 v) ∧ -1 ≤ v ∧ v ≤ 256 := by
  have h4 : y = 0 ∨ y = 1 ∨ y = 2 ∨ y = 3 := by omega
  rcases h4 with rfl | rfl | rfl | rfl
  · exact ⟨-1, cell_of_row W b 0 _ _ _ h, by omega, by omega⟩
  · exact ⟨0, cell_of_row W b 1 _ _ _ h, by omega, by omega⟩
  · exact ⟨255, cell_of_row W b 2 _ _ _ h, by omega, by omega⟩
  · exact ⟨256, cell_of_row W b 3 _ _ _ h, by omega, by omega⟩

end Go.Proofs.Ythbmfaogjaahoaa
