/-
  CMAC: what alive and long do; '==' of arrays that are the same, or not; Of and Short of one part that the call lays.
-/
import Derived.Test.YtknemkekmahdmaaCmG
namespace Go.Proofs.Ytknemkekmahdmaa.aesC
open Go.ChangeShapes Go.WideShapes Go.ChangeAt Go.RowKit
open Go.Proofs.Ytknemkekmahdmaa.memC Go.Proofs.Ytknemkekmahdmaa.genC Go.Proofs.Ytknemkekmahdmaa.aesM Go.Proofs.Ytknemkekmahdmaa.butC Go.Proofs.Ytknemkekmahdmaa.freeC Go.Proofs.Ytknemkekmahdmaa.partsC
set_option linter.unusedVariables false
def AliveRet (w : World) (e : Ending) (w' : World) : Prop := e = .returned (.bool true) ∧ Below w.heap.size w w'
theorem long_any (A : Option Addr) (n c : Nat) (w : World) (hn : n ≤ 9223372036854775807) :
    Calls Try.prog 8 #[.slice A n c] w fun e w' => e = .returned (.bool (decide (300 < n))) ∧ w = w' := by
  go_enter Try.func8, Try.ntmps8
  go_wp2
  go_ret
  exact ⟨ret_bool (by rw [decide_eq_decide]; omega), rfl⟩
theorem eq16 {xs : List Nat} (h : xs.length = 16) (w : World) : (Op.equalIn 10000 22 (.agg (vec xs)) (.agg (vec xs))).run Try.prog w = .ok true w := by
  obtain ⟨i0, hi0, hz0, hz1, hz2⟩ := info_parts byte_inf
  exact Go.Proofs.Ytknemkekmahdmaa.eqC.run_same w _ _ 16 .u8 i0 _ Try.underlying22 rfl hi0 (by kernel_rfl) fun j hj => ⟨_, vec_at (by omega)⟩
theorem eq12 {xs : List Nat} (h : xs.length = 12) (w : World) : (Op.equalIn 10000 28 (.agg (vec xs)) (.agg (vec xs))).run Try.prog w = .ok true w := by
  obtain ⟨i0, hi0, hz0, hz1, hz2⟩ := info_parts byte_inf
  exact Go.Proofs.Ytknemkekmahdmaa.eqC.run_same w _ _ 12 .u8 i0 _ Try.underlying28 rfl hi0 (by kernel_rfl) fun j hj => ⟨_, vec_at (by omega)⟩
theorem guard16 : Try.prog.eqGuardType Try.prog.depth 22 = false := by kernel_rfl
theorem guard12 : Try.prog.eqGuardType Try.prog.depth 28 = false := by kernel_rfl
theorem no_parts (w : World) (B : Nat) : Parts w B none [] := ⟨fun h => absurd h (Nat.lt_irrefl 0), fun p h => by cases h⟩
set_option maxRecDepth 100000 in
set_option maxHeartbeats 1000000 in
theorem alive_any (w : World) : Calls Try.prog 9 #[] w (AliveRet w) := by
  obtain ⟨X, hX⟩ : ∃ X, X = vec (macL keyK []) := ⟨_, rfl⟩
  have OF := Lib.hid (((cof_any none 0 0 [] keyK w (no_parts _ _) rfl (by decide) rfl keyK_by)).mono fun e w' h => (show e = .returned (.agg X) ∧ Below w.heap.size w w' from ⟨by rw [hX]; exact h.1, h.2⟩))
  have x0 : X[0]? = some (.int .u8 187) := by rw [hX, known_mac]; rfl
  have x1 : X[1]? = some (.int .u8 29) := by rw [hX, known_mac]; rfl
  have x15 : X[15]? = some (.int .u8 70) := by rw [hX, known_mac]; rfl
  obtain ⟨Z, hZ⟩ : ∃ Z, Z = vec (zs 16) := ⟨_, rfl⟩
  have hzv := zero16
  rw [← hZ] at hzv
  have UX := Lib.hid (show (Try.prog.info? 22).map (·.size) = some X.size by rw [hX]; exact vec_info (macL_len _ _))
  have ZX := Lib.hid (show Z.size = X.size by rw [hZ, hX, vec_size, vec_size, macL_len, zs_len])
  have OX := Lib.hid (show X.all (·.oneCell') = true by rw [hX]; exact vec_one _)
  clear hX hZ
  go_enter Try.func9, Try.ntmps9
  go_upto_region 2 with (first
    | (refine wpList_buildTo rfl 22 _ rfl (some 2) rfl (vec keyK) (by kernel_rfl) ?_)
    | (go_at_call 10; (with_reducible refine OF.out.mono ?_); rintro e w1 ⟨rfl, B1⟩)
    | (refine wpList_store_row rfl 22 (.tmp 1) (.tmp 3) rfl w1.heap.size X rfl rfl _ _ (heap_alloc_new _ _) UX.out ZX.out OX.out ?_))
  rw [World.setRow_alloc_new]
  have hr : (w1.alloc (.cells X 22)).heap[w1.heap.size]? = some (.cells X 22 (0, 0)) := heap_alloc_new _ _
  have BF : Below w.heap.size w (w1.alloc (.cells X 22)) := B1.alloc B1.size _
  generalize w1.alloc (.cells X 22) = w2 at *
  generalize w1.heap.size = g at *
  have c0 : w2.cell? ⟨g, 0, none⟩ = some (.int .u8 187) := by rw [cell_of_row w2 g 0 X _ (0, 0) hr, x0]
  have c1 : w2.cell? ⟨g, 1, none⟩ = some (.int .u8 29) := by rw [cell_of_row w2 g 1 X _ (0, 0) hr, x1]
  have c15 : w2.cell? ⟨g, 15, none⟩ = some (.int .u8 70) := by rw [cell_of_row w2 g 15 X _ (0, 0) hr, x15]
  have HBF := Lib.hid BF
  clear hr BF x0 x1 x15 hzv OF UX ZX OX B1
  go_wp2_with fail
  go_ret
  exact ⟨rfl, HBF.out⟩
/-- a slice of bytes that came in -/
structure Key (w : World) (A : Option Addr) (n c : Nat) (k : List Int) : Prop where
  nums : Nums .u8 w w.heap.size A n k
  byte : ∀ x ∈ k, Byte x
  cap : n ≤ c
  max : c ≤ 9223372036854775807
section
variable {w w' : World} {A : Option Addr} {n c : Nat} {msg : List Int} {k : List Nat}
theorem Key.below (h : Key w A n c msg) (B : Below w.heap.size w w') : Key w' A n c msg := ⟨(h.nums.below B).more B.size, h.byte, h.cap, h.max⟩
theorem Key.partAt (h : Key w A n c msg) (hn : n ≤ 10000) : PartAt w w.heap.size ⟨A, n, c, msg⟩ := ⟨h.nums, hn, h.byte, h.cap, h.max⟩
theorem cat1 (p : Part) : catL [p] = p.bs := by simp [catL]
/-- Of of a key and one part that lies in a row -/
theorem mac1 {P : Option Addr} (hp : Parts w w.heap.size P [⟨A, n, c, msg⟩]) (hk : k.length = 16) (yk : BY k) :
    Calls Try.prog 10 #[.agg (vec k), .slice P 1 1] w (Ret w (.agg (vec (macL k (nats msg))))) := by
  have h := cof_any P 1 1 _ k w hp rfl (by decide) hk yk
  rw [cat1] at h; exact h
theorem short1 {P : Option Addr} (hp : Parts w w.heap.size P [⟨A, n, c, msg⟩]) (hk : k.length = 16) (yk : BY k) :
    Calls Try.prog 12 #[.agg (vec k), .slice P 1 1] w (Ret w (.agg (vec (shoL k (nats msg))))) := by
  have h := cshort_any P 1 1 _ k w hp rfl (by decide) hk yk
  rw [cat1] at h; exact h
end
end Go.Proofs.Ytknemkekmahdmaa.aesC
