/-
  What alive does.
-/
import Derived.Test.YtbdppelkefhieaaOctF
namespace Go.Proofs.Ytbdppelkefhieaa.octC
open Go.ChangeShapes Go.WideShapes Go.ChangeAt Go.RowKit
open Go.Proofs.Ytbdppelkefhieaa.memC
set_option linter.unusedVariables false
def Mid (pb pn b o c : Nat) (w : World) : Prop := w.cell? ⟨pb, 0, none⟩ = some (.slice (some ⟨b, o, none⟩) 2 c) ∧ w.cell? ⟨b, o, none⟩ = some (.int .u8 1) ∧ Nums .u8 w w.heap.size (some ⟨b, o, none⟩) 2 [1, 2]
theorem Mid.fr {pb pn b o c : Nat} {S : Nat → Prop} {w w' : World} (h : Mid pb pn b o c w) (F : Fr S w w') (hs : ∀ k, S k → k = pn) (h1 : pb ≠ pn) (h2 : b ≠ pn) : Mid pb pn b o c w' := by
  obtain ⟨h3, h4, N⟩ := h
  refine ⟨(F.cell (World.block_lt_of_cell? _ _ h3) fun h => h1 (hs _ h)).trans h3, (F.cell (World.block_lt_of_cell? _ _ h4) fun h => h2 (hs _ h)).trans h4, N.len, fun hn => ?_⟩
  obtain ⟨b', o', e, hb, hc⟩ := N.at_ hn
  obtain ⟨rfl, rfl⟩ : b = b' ∧ o = o' := by simpa using e
  exact ⟨b, o, rfl, Nat.lt_of_lt_of_le hb F.size, fun i hi => (F.cell hb fun h => h2 (hs _ h)).trans (hc i hi)⟩
set_option maxRecDepth 100000 in
set_option maxHeartbeats 400000 in
theorem alive_any (w : World) : Calls Try.prog 9 #[] w (AliveRet w) := by
  have hmf : ∀ (fn : Fn) (first cap : Array Value) (w : World), (Instr.makeFunc fn first cap).run Try.prog w = .ok (.func fn first cap) w := fun _ _ _ _ => rfl
  go_enter Try.func9, Try.ntmps9
  go_wp2_with (first
    | (go_at_call 10
       refine (put_12 w).mono ?_
       rintro e w1 ⟨b, o, c, rfl, h1, hlt, N, B⟩))
  have BB : Below w1.heap.size w1 ((w1.alloc (.cells #[.slice (some ⟨b, o, none⟩) 2 c] 22)).alloc (.cells #[.int .u64 0] 28)) := ((Below.refl _ _).alloc (Nat.le_refl _) _).alloc (by simp) _
  have M1 : Mid w1.heap.size (w1.heap.size + 1) b o c ((w1.alloc (.cells #[.slice (some ⟨b, o, none⟩) 2 c] 22)).alloc (.cells #[.int .u64 0] 28)) :=
    ⟨by go_simp, (BB.cell (p := ⟨b, o, none⟩) hlt).trans h1, (N.below BB).more BB.size⟩
  have C1 : ((w1.alloc (.cells #[.slice (some ⟨b, o, none⟩) 2 c] 22)).alloc (.cells #[.int .u64 0] 28)).cell? ⟨w1.heap.size + 1, 0, none⟩ = some (.int .u64 0) := by go_simp
  have Z1 : ((w1.alloc (.cells #[.slice (some ⟨b, o, none⟩) 2 c] 22)).alloc (.cells #[.int .u64 0] 28)).frozen? ⟨w1.heap.size + 1, 0, none⟩ = false := by go_simp
  have B1 : Below w.heap.size w ((w1.alloc (.cells #[.slice (some ⟨b, o, none⟩) 2 c] 22)).alloc (.cells #[.int .u64 0] 28)) := B.trans (BB.mono B.size)
  have hsz := B.size
  generalize ((w1.alloc (.cells #[.slice (some ⟨b, o, none⟩) 2 c] 22)).alloc (.cells #[.int .u64 0] 28)) = W at *
  clear BB N B h1
  generalize w1.heap.size = pb at *
  have T1 := Lib.hid (try_alive1 pb (pb + 1) (some ⟨b, o, none⟩) c W M1.1 M1.2.2 C1 Z1)
  clear C1 Z1
  go_wp2_with (go_at_call 20
               refine T1.out.mono ?_
               rintro e w2 ⟨rfl, F2, c2⟩
               have M2 := M1.fr F2 (fun k hk => hk) (by omega) (by omega)
               have T2 := Lib.hid (try_alive2 pb (some ⟨b, o, none⟩) c w2 M2.1 M2.2.2)
               clear T1
               have H2 := Lib.hid c2
               have B2 : Below w.heap.size w w2 := B1.trans (F2.to_below (fun k hk => by omega) B1.size)
               clear c2 F2)
  go_wp2_with (go_at_call 20
               refine T2.out.mono ?_
               rintro e w3 ⟨rfl, F3, _⟩
               obtain ⟨g1, g2, _⟩ := M2.fr F3 (fun k hk => hk.elim) (by omega) (by omega)
               have g3 : w3.cell? ⟨pb + 1, 0, none⟩ = some (.int .u64 258) := (F3.cell (a := ⟨pb + 1, 0, none⟩) (World.block_lt_of_cell? _ _ H2.out) fun h => h).trans H2.out
               have B3 : Below w.heap.size w w3 := B2.trans (F3.to_below (fun k hk => hk.elim) B2.size)
               clear T2 H2 B2 F3 M2 M1 B1)
  go_ret
  exact ⟨rfl, B3⟩
end Go.Proofs.Ytbdppelkefhieaa.octC
