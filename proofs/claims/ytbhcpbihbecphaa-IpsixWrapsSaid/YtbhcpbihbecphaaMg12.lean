/-
  5 texts of a proof, joined.
-/
import Derived.Test.YtbhcpbihbecphaaMg10
import Derived.Test.YtbhcpbihbecphaaMg11
import Derived.Test.YtbhcpbihbecphaaMg6
import Derived.Test.YtbhcpbihbecphaaMg3

/-
  A reader in a reader: the next byte, an address, a header that is gone past.
-/
namespace Go.Proofs.Ytbhcpbihbecphaa.octC
open Go.ChangeShapes Go.WideShapes Go.ChangeAt Go.RowKit
open Go.Proofs.Ytbhcpbihbecphaa.memC
set_option linter.unusedVariables false
/-- a reader whose bytes lie below B -/
def RdD (w : World) (p B : Nat) (bs : List Int) : Prop := ∃ A n c, w.cell? ⟨p, 0, none⟩ = some (.slice A n c) ∧ w.frozen? ⟨p, 0, none⟩ = false ∧ p < w.heap.size ∧ Nums .u8 w B A n bs ∧ n ≤ c ∧ c ≤ 9223372036854775807 ∧ B ≤ p
section
variable {w w' : World} {p B : Nat} {bs : List Int}
theorem RdD.rd (h : RdD w p B bs) : Rd w p bs := by
  obtain ⟨A, n, c, h1, h2, h3, N, h4, h5, h6⟩ := h
  exact ⟨A, n, c, h1, h2, h3, N.more h6, h4, h5⟩
theorem Rd.rdD (h : Rd w p bs) : RdD w p p bs := by
  obtain ⟨A, n, c, h1, h2, h3, N, h4, h5⟩ := h
  exact ⟨A, n, c, h1, h2, h3, N, h4, h5, Nat.le_refl _⟩
theorem RdD.lt (h : RdD w p B bs) : p < w.heap.size := by obtain ⟨_, _, _, _, _, h3, _⟩ := h; exact h3
theorem RdD.le (h : RdD w p B bs) : B ≤ p := by obtain ⟨_, _, _, _, _, _, _, _, _, h6⟩ := h; exact h6
theorem RdD.keep (h : RdD w p B bs) (hs : w.heap.size ≤ w'.heap.size) (hp : w'.heap[p]? = w.heap[p]?) (hk : ∀ k, k < B → w'.heap[k]? = w.heap[k]?) : RdD w' p B bs := by
  obtain ⟨A, n, c, h1, h2, h3, N, h4, h5, h6⟩ := h
  exact ⟨A, n, c, (World.cell?_of_block (w := w) hp).trans h1, (World.frozen?_of_block (w := w) hp).trans h2, by omega, N.keep fun a ha => World.cell?_of_block (w := w) (hk _ ha), h4, h5, h6⟩
theorem RdD.below (h : RdD w p B bs) (b : Below w.heap.size w w') : RdD w' p B bs :=
  h.keep b.size (b.block _ h.lt) fun k hk => b.block _ (by have := h.lt; have := h.le; omega)
theorem RdD.fr {S : Nat → Prop} (h : RdD w p B bs) (F : Fr S w w') (hS : ∀ k, S k → B ≤ k ∧ k ≠ p) : RdD w' p B bs :=
  h.keep F.size (F.block _ h.lt fun e => (hS _ e).2 rfl) fun k hk => F.block _ (by have := h.lt; have := h.le; omega) fun e => by have := (hS _ e).1; omega
theorem RdD.set_ {s : Nat} {A : Option Addr} {n c : Nat} (h : w.cell? ⟨p, 0, none⟩ = some (.slice A n c)) (hf : w.frozen? ⟨p, 0, none⟩ = false) (hp : p < w.heap.size) (N : Nums .u8 w B A n bs) (hn : s ≤ n) (hnc : n ≤ c) (hc : c ≤ 9223372036854775807) (hB : B ≤ p) :
    RdD (w.setCell ⟨p, 0, none⟩ (.slice (if c = s then A else A.map (·.add s)) (n - s) (c - s))) p B (bs.drop s) :=
  ⟨(if c = s then A else A.map (·.add s)), n - s, c - s, by go_simp, by go_simp, by simpa [World.setCell] using hp, (N.cut hn hnc).below ((Below.refl _ _).setCell (p := ⟨p, 0, none⟩) hB _), by omega, by omega, hB⟩
end
/-- the next number -/
def NumD (w : World) (p B : Nat) (bs : List Int) (s : Nat) (e : Ending) (w' : World) : Prop := e = .returned (.int .u64 (getZ (bs.take s))) ∧ RdD w' p B (bs.drop s) ∧ Fr (· = p) w w'
set_option maxRecDepth 100000 in
theorem num_okD (p B : Nat) (bs : List Int) (size : Int) (w : World) (h : RdD w p B bs) (h0 : 0 < size) (h2 : size ≤ 9223372036854775807) (hs : fitN size ≤ bs.length) (hl : bs.length ≤ 100000) (hy : ∀ x ∈ bs, Byte x) :
    Calls Try.prog 43 #[.pointer (some ⟨p, 0, none⟩), .int .i64 size] w (NumD w p B bs (fitN size)) := by
  obtain ⟨A, n, c, hc, hf, hp, N, hnc, hcm, hB⟩ := h
  have e0 : 0 < fitN size := by have := fitN_eq size; omega
  have hn : fitN size ≤ n := by rw [← N.len]; exact hs
  have h8 := fitN_le size
  have R := RdD.set_ (s := fitN size) hc hf hp N hn hnc hcm hB
  have N2 : Nums .u8 (w.setCell ⟨p, 0, none⟩ (.slice (if c = fitN size then A else A.map (·.add (fitN size))) (n - fitN size) (c - fitN size))) B A (fitN size) (bs.take (fitN size)) :=
    (N.upto hn).below ((Below.refl _ _).setCell (p := ⟨p, 0, none⟩) hB _)
  have G : Fr (· = p) w (w.setCell ⟨p, 0, none⟩ (.slice (if c = fitN size then A else A.map (·.add (fitN size))) (n - fitN size) (c - fitN size))) := Fr.setCell (S := fun x => x = p) _ (fun _ => rfl) _
  have hz : B ≤ (w.setCell ⟨p, 0, none⟩ (.slice (if c = fitN size then A else A.map (·.add (fitN size))) (n - fitN size) (c - fitN size))).heap.size := by simp [World.setCell]; omega
  have H := Lib.hid hc; have HF := Lib.hid hf
  clear hc hf
  have TK := take_ok p A n c (fitN size) w H.out HF.out e0 hn hnc hcm
  generalize w.setCell ⟨p, 0, none⟩ (.slice (if c = fitN size then A else A.map (·.add (fitN size))) (n - fitN size) (c - fitN size)) = w1 at *
  have EL := Lib.hid (last8_take bs (fitN size) h8)
  go_enter Try.func43, Try.ntmps43
  go_wp2_with (first
    | (go_at_call 38; refine (fit_any _ _ (by omega) h2).mono ?_; rintro e w' ⟨rfl, rfl⟩)
    | (go_at_call 49; refine TK.mono ?_; rintro e w' ⟨rfl, rfl⟩)
    | (go_at_call 50; refine (get_any _ _ _ _ _ (N2.more hz) (by omega) (by omega) hcm (fun x hx => hy x (List.mem_of_mem_take hx))).mono ?_; rintro e w' ⟨rfl, rfl⟩))
  go_ret
  exact ⟨ret_int (by rw [EL.out]), R, G⟩
/-- the next bytes, the call's own, and what is left -/
def ByD (w : World) (p B : Nat) (bs : List Int) (s : Nat) (e : Ending) (w' : World) : Prop :=
  ∃ A c, e = .returned (.slice A s c) ∧ Own .u8 5 w' w.heap.size (.slice A s c) (bs.take s) ∧ s ≤ c ∧ c ≤ maxLen ∧ RdD w' p B (bs.drop s) ∧ Fr (· = p) w w'
theorem bytes_okD (p B : Nat) (bs : List Int) (s : Nat) (z : Int) (w : World) (h : RdD w p B bs) (hz : (s : Int) = z) (hs : s ≤ bs.length) (hl : bs.length ≤ 100000) :
    Calls Try.prog 47 #[.pointer (some ⟨p, 0, none⟩), .int .i64 z] w (ByD w p B bs s) := by
  by_cases h0 : s = 0
  · subst h0
    have T := Lib.hid (take_zero (some ⟨p, 0, none⟩) z w (by omega))
    have HR := Lib.hid h
    clear h hs hl hz
    go_enter Try.func47, Try.ntmps47
    go_wp2_with (first
      | (go_at_call 49; refine T.out.mono ?_; rintro e w' ⟨rfl, rfl⟩)
      | (go_at_call 36; refine (clone_none 0 0 _).mono ?_; rintro e w' ⟨rfl, rfl⟩))
    go_ret
    exact ⟨none, 0, rfl, Own.nil _ _, Nat.le_refl _, Nat.zero_le _, by simpa using HR.out, Fr.refl _⟩
  · obtain ⟨A, n, c, hc, hf, hp, N, hnc, hcm, hB⟩ := h
    have hn : s ≤ n := by rw [← N.len]; exact hs
    have R := RdD.set_ (s := s) hc hf hp N hn hnc hcm hB
    have N2 : Nums .u8 (w.setCell ⟨p, 0, none⟩ (.slice (if c = s then A else A.map (·.add s)) (n - s) (c - s))) B A s (bs.take s) :=
      (N.upto hn).below ((Below.refl _ _).setCell (p := ⟨p, 0, none⟩) hB _)
    have F1 : Fr (· = p) w (w.setCell ⟨p, 0, none⟩ (.slice (if c = s then A else A.map (·.add s)) (n - s) (c - s))) := Fr.setCell (S := fun x => x = p) _ (fun _ => rfl) _
    have hz2 : w.heap.size = (w.setCell ⟨p, 0, none⟩ (.slice (if c = s then A else A.map (·.add s)) (n - s) (c - s))).heap.size := by simp [World.setCell]
    have TK := Lib.hid (take_ok p A n c s w hc hf (by omega) hn hnc hcm)
    rw [hz] at TK
    clear hc hf
    generalize w.setCell ⟨p, 0, none⟩ (.slice (if c = s then A else A.map (·.add s)) (n - s) (c - s)) = w1 at *
    have CL := Lib.hid (clone_any A s c (bs.take s) w1 (N2.more (by omega)) (by rw [N.len] at hl; omega))
    have HR := Lib.hid R
    have HF := Lib.hid F1
    have HZ := Lib.hid hz2
    have HL := Lib.hid (show (bs.take s).length = s by rw [List.length_take]; omega)
    clear N N2 R F1 hz2 hnc hcm hs hl h0 hn hz
    go_enter Try.func47, Try.ntmps47
    go_wp2_with (first
      | (go_at_call 49; refine TK.out.mono ?_; rintro e w' ⟨rfl, rfl⟩)
      | (go_at_call 36; refine CL.out.mono ?_; rintro e w2 ⟨A2, c2, he, O, h1, h2, N, Bb⟩
         rw [HL.out] at he O h1
         subst he
         have HO := Lib.hid O
         have HB := Lib.hid Bb
         clear O N Bb))
    go_ret
    refine ⟨A2, c2, rfl, ?_, h1, h2, HR.out.below HB.out, HF.out.trans (Fr.below HB.out)⟩
    rw [HZ.out]; exact HO.out
/-- a reader of the next bytes, and what is left -/
def SubR (w : World) (p B : Nat) (bs : List Int) (s : Nat) (e : Ending) (w' : World) : Prop :=
  ∃ q, e = .returned (.pointer (some ⟨q, 0, none⟩)) ∧ w.heap.size ≤ q ∧ RdD w' q B (bs.take s) ∧ RdD w' p B (bs.drop s) ∧ Fr (· = p) w w'
theorem sub_stop (p : Nat) (bs : List Int) (s : Nat) (z : Int) (w : World) (h : Rd w p bs) (hz : (s : Int) = z) (hs : bs.length < s) :
    Calls Try.prog 42 #[.pointer (some ⟨p, 0, none⟩), .int .i64 z] w fun e w' => e = stopped ∧ w = w' := by
  obtain ⟨A, n, c, hc, hf, hp, N, hnc, hcm⟩ := h
  have hn : n < s := by rw [← N.len]; exact hs
  have T := Lib.hid (take_stop p A n c s w hc (by omega) hn)
  rw [hz] at T
  clear hc hf N hnc hcm hz hs hn
  go_enter Try.func42, Try.ntmps42
  go_wp2_with (first
    | (go_at_call 49; refine T.out.mono ?_; rintro e w' ⟨he, rfl⟩; rw [stopped_eq] at he; subst he))
  exact ⟨rfl, rfl, rfl⟩
theorem sub_ok (p B : Nat) (bs : List Int) (s : Nat) (z : Int) (w : World) (h : RdD w p B bs) (hz : (s : Int) = z) (hs : s ≤ bs.length) :
    Calls Try.prog 42 #[.pointer (some ⟨p, 0, none⟩), .int .i64 z] w (SubR w p B bs s) := by
  by_cases h0 : s = 0
  · subst h0
    have T := Lib.hid (take_zero (some ⟨p, 0, none⟩) z w (by omega))
    have HR := Lib.hid h
    have HB := Lib.hid (show B ≤ w.heap.size by have := h.lt; have := h.le; omega)
    clear h hs hz
    go_enter Try.func42, Try.ntmps42
    go_wp2_with (first
      | (go_at_call 49; refine T.out.mono ?_; rintro e w' ⟨rfl, rfl⟩))
    go_ret
    refine ⟨w.heap.size, rfl, Nat.le_refl _, ⟨none, 0, 0, by go_simp, by go_simp, by simp, Nums.none_ 0, by omega, by omega, HB.out⟩, ?_, Fr.alloc _ _⟩
    rw [List.drop_zero]
    exact HR.out.below ((Below.refl _ _).alloc (Nat.le_refl _) _)
  · obtain ⟨A, n, c, hc, hf, hp, N, hnc, hcm, hB⟩ := h
    have hn : s ≤ n := by rw [← N.len]; exact hs
    have R := RdD.set_ (s := s) hc hf hp N hn hnc hcm hB
    have N2 : Nums .u8 (w.setCell ⟨p, 0, none⟩ (.slice (if c = s then A else A.map (·.add s)) (n - s) (c - s))) B A s (bs.take s) :=
      (N.upto hn).below ((Below.refl _ _).setCell (p := ⟨p, 0, none⟩) hB _)
    have F1 : Fr (· = p) w (w.setCell ⟨p, 0, none⟩ (.slice (if c = s then A else A.map (·.add s)) (n - s) (c - s))) := Fr.setCell (S := fun x => x = p) _ (fun _ => rfl) _
    have hz2 : w.heap.size = (w.setCell ⟨p, 0, none⟩ (.slice (if c = s then A else A.map (·.add s)) (n - s) (c - s))).heap.size := by simp [World.setCell]
    have TK := Lib.hid (take_ok p A n c s w hc hf (by omega) hn hnc hcm)
    rw [hz] at TK
    clear hc hf
    generalize w.setCell ⟨p, 0, none⟩ (.slice (if c = s then A else A.map (·.add s)) (n - s) (c - s)) = w1 at *
    have HR := Lib.hid R
    have HF := Lib.hid F1
    have HZ := Lib.hid hz2
    have HP := Lib.hid hp
    have HN := Lib.hid N2
    have HC := Lib.hid hnc
    have HM := Lib.hid hcm
    have HS := Lib.hid hn
    have HBp := Lib.hid hB
    clear N N2 R F1 hz2 hnc hcm hs h0 hn hz hp hB
    go_enter Try.func42, Try.ntmps42
    go_wp2_with (first
      | (go_at_call 49; refine TK.out.mono ?_; rintro e w' ⟨rfl, rfl⟩))
    go_ret
    have hp := HP.out
    have hz2 := HZ.out
    have hB := HBp.out
    refine ⟨w1.heap.size, rfl, by omega, ⟨A, s, c, by go_simp, by go_simp, by simp, ?_, by have := HC.out; have := HS.out; omega, HM.out, by omega⟩, HR.out.below ((Below.refl _ _).alloc (Nat.le_refl _) _), HF.out.trans (Fr.alloc _ _)⟩
    exact HN.out.below ((Below.refl _ _).alloc (by omega) _)
end Go.Proofs.Ytbhcpbihbecphaa.octC
namespace Go.Proofs.Ytbhcpbihbecphaa.sxC
open Go.ChangeShapes Go.WideShapes Go.ChangeAt Go.RowKit
open Go.Proofs.Ytbhcpbihbecphaa.memC Go.Proofs.Ytbhcpbihbecphaa.genC Go.Proofs.Ytbhcpbihbecphaa.adC Go.Proofs.Ytbhcpbihbecphaa.pkC
open Go.Proofs.Ytbhcpbihbecphaa.octC (Fr Rd RdD stopped)
set_option linter.unusedVariables false
/-- a reader that has a reader q in it, and knows what comes next -/
def RdB (w : World) (g q : Nat) (x : Int) : Prop := w.heap[g]? = some (.cells #[.pointer (some ⟨q, 0, none⟩), .int .u8 x] 59 (0, 0))
theorem RdB.ptr {w : World} {g q : Nat} {x : Int} (h : RdB w g q x) : w.cell? ⟨g, 0, none⟩ = some (.pointer (some ⟨q, 0, none⟩)) := by rw [cell_of_row w g 0 _ _ (0, 0) h]; rfl
theorem RdB.nxt {w : World} {g q : Nat} {x : Int} (h : RdB w g q x) : w.cell? ⟨g, 1, none⟩ = some (.int .u8 x) := by rw [cell_of_row w g 1 _ _ (0, 0) h]; rfl
theorem RdB.fr {S : Nat → Prop} {w w' : World} {g q : Nat} {x : Int} (h : RdB w g q x) (F : Fr S w w') (hn : ¬ S g) : RdB w' g q x := F.row h hn
theorem getZ1 {bs : List Int} (h : 1 ≤ bs.length) : octC.getZ (bs.take 1) = bs.getD 0 0 := by
  match bs, h with
  | x :: r, _ => show 0 * 256 + x = x; omega
theorem getZ2 {bs : List Int} (h : 2 ≤ bs.length) : octC.getZ (bs.take 2) = w2 bs 0 := by
  match bs, h with
  | x :: y :: r, _ => show (0 * 256 + x) * 256 + y = x * 256 + y; omega
theorem getZ4 {bs : List Int} (h : 4 ≤ bs.length) : octC.getZ (bs.take 4) = w4 bs 0 := by
  match bs, h with
  | x :: y :: z :: u :: r, _ => show (((0 * 256 + x) * 256 + y) * 256 + z) * 256 + u = (x * 256 + y) * 65536 + (z * 256 + u); omega
theorem fit1 : octC.fitN 1 = 1 := by decide
theorem fit2 : octC.fitN 2 = 2 := by decide
theorem fit4 : octC.fitN 4 = 4 := by decide
/-- the next byte -/
def OcR (w : World) (q B : Nat) (bs : List Int) (e : Ending) (w' : World) : Prop := e = .returned (.int .u8 (bs.getD 0 0)) ∧ RdD w' q B (bs.drop 1) ∧ Fr (· = q) w w'
theorem octet_stop (g q : Nat) (x : Int) (bs : List Int) (w : World) (hg : RdB w g q x) (h : Rd w q bs) (hl : bs.length < 1) :
    Calls Try.prog 44 #[.pointer (some ⟨g, 0, none⟩)] w fun e w' => e = stopped ∧ w = w' := by
  have T := Lib.hid (octC.num_stop q bs 1 w h (by decide) (by decide) (by rw [fit1]; exact hl))
  have k0 := hg.ptr
  clear hg h hl
  go_enter Try.func44, Try.ntmps44
  go_wp2_with (first
    | (go_at_call 43; refine T.out.mono ?_; rintro e w' ⟨he, rfl⟩; rw [octC.stopped_eq] at he; subst he))
  exact ⟨rfl, rfl, rfl⟩
theorem octet_ok (g q B : Nat) (x : Int) (bs : List Int) (w : World) (hg : RdB w g q x) (h : RdD w q B bs) (hl : 1 ≤ bs.length) (hm : bs.length ≤ 100000) (hy : ∀ x ∈ bs, Byte x) :
    Calls Try.prog 44 #[.pointer (some ⟨g, 0, none⟩)] w (OcR w q B bs) := by
  have T := octC.num_okD q B bs 1 w h (by decide) (by decide) (by rw [fit1]; exact hl) hm hy
  unfold octC.NumD at T
  rw [fit1, getZ1 hl] at T
  have T := Lib.hid T
  have k0 := hg.ptr
  have hb := getD_bytes hy 0
  unfold Byte at hb
  have W := Lib.hid (show IntKind.u8.wrap (bs.getD 0 0) = bs.getD 0 0 from IntWalk.u8_in _ (by omega))
  unfold OcR
  generalize bs.getD 0 0 = y at *
  clear hg h hl hm hy hb
  go_enter Try.func44, Try.ntmps44
  go_wp2_with (first
    | (go_at_call 43; refine T.out.mono ?_; rintro e w' ⟨rfl, R, G⟩
       have RR := Lib.hid R
       have GG := Lib.hid G
       clear R G))
  go_ret
  exact ⟨octC.ret_int W.out, RR.out, GG.out⟩
/-- an address that comes -/
def AdR (w : World) (q B : Nat) (bs : List Int) (e : Ending) (w' : World) : Prop := e = .returned (.agg (adrV true (bs.take 16))) ∧ RdD w' q B (bs.drop 16) ∧ Fr (· = q) w w'
set_option maxRecDepth 100000 in
theorem address_ok (g q B : Nat) (x : Int) (bs : List Int) (w : World) (hg : RdB w g q x) (h : RdD w q B bs) (hl : 16 ≤ bs.length) (hm : bs.length ≤ 100000) :
    Calls Try.prog 45 #[.pointer (some ⟨g, 0, none⟩)] w (AdR w q B bs) := by
  have hzv := zeroAdr
  obtain ⟨W1, hW1⟩ : ∃ W1, W1 = w.alloc (.cells zAdr 24) := ⟨_, rfl⟩
  have B1 : Below w.heap.size w W1 := by rw [hW1]; exact alloc_below _ _
  have R1 := Lib.hid (show W1.heap[w.heap.size]? = some (.cells zAdr 24 (0, 0)) by rw [hW1]; exact heap_alloc_new w _)
  have hqw : q < w.heap.size := h.lt
  have hBq : B ≤ q := h.le
  have hgw := lt_of_row hg
  have k0 : W1.cell? ⟨g, 0, none⟩ = some (.pointer (some ⟨q, 0, none⟩)) := (B1.cell (p := ⟨g, 0, none⟩) hgw).trans hg.ptr
  have T := Lib.hid (octC.bytes_okD q B bs 16 16 W1 (h.below B1) rfl hl hm)
  have hL : (bs.take 16).length = 16 := by rw [List.length_take]; omega
  have e16 : ofL (bs.take 16) = some (true, bs.take 16) := by unfold ofL; rw [if_neg (by omega), if_pos hL]
  have C := Lib.hid (fun A c w' (N : Nums .u8 w' w'.heap.size A 16 (bs.take 16)) => (show Calls Try.prog 51 #[.slice A 16 c] w' (Ret w' (.tuple #[.agg (adrV true (bs.take 16)), .int .i64 0])) by
    have q := cof_any A 16 c (bs.take 16) w' N
    rw [e16] at q
    exact q))
  have U := Lib.hid (adr_info true hL)
  have Z := Lib.hid (z_size true hL)
  have O := Lib.hid (adrV_one true (bs.take 16))
  have UZ := Lib.hid (adr_info false (zs_len 16))
  have HB := Lib.hid B1
  have QW := Lib.hid hqw
  have QB := Lib.hid hBq
  have S1 := Lib.hid (show W1.heap.size = w.heap.size + 1 by rw [hW1]; exact alloc_size _ _)
  unfold AdR
  generalize adrV true (bs.take 16) = D at *
  clear hg h hl hm e16 hL B1 hqw hgw hBq
  go_enter Try.func45, Try.ntmps45
  go_upto_region 1 with fail
  rw [← hW1]
  clear hW1 hzv
  have hzv := zeroAdr
  generalize zAdr = ZA at *
  go_upto_region 2 with (first
    | (go_at_call 47; (refine T.out.mono ?_); rintro e w2 ⟨A2, c2, rfl, O2, g1, g2, R, F⟩
       have RR := Lib.hid R
       have FF := Lib.hid F
       have C2 := Lib.hid (C.out A2 c2 w2 O2.nums)
       clear R F O2 g1 g2)
    | (go_at_call 51; (refine C2.out.mono ?_); rintro e w3 ⟨rfl, BB⟩
       have HB3 := Lib.hid BB
       have RN := Lib.hid (show (w3.alloc (.cells ZA 24)).heap[w3.heap.size]? = some (.cells ZA 24 (0, 0)) from heap_alloc_new w3 _)
       clear BB)
    | (refine wpList_store_row rfl 24 (.tmp 3) (.tmp 12) rfl w3.heap.size D rfl rfl _ _ RN.out U.out Z.out O.out ?_))
  rw [World.setRow_alloc_new]
  have RD := Lib.hid (show (w3.alloc (.cells D 24)).heap[w3.heap.size]? = some (.cells D 24 (0, 0)) from heap_alloc_new w3 _)
  have hq1 := QW.out
  have hs1 := S1.out
  have B4 : Below w2.heap.size w2 (w3.alloc (.cells D 24)) := HB3.out.trans ((alloc_below w3 _).mono HB3.out.size)
  have R4 := Lib.hid (RR.out.below B4)
  have F4 := Lib.hid (FF.out.trans (Fr.below B4))
  have RZ4 := Lib.hid (show (w3.alloc (.cells D 24)).heap[w.heap.size]? = some (.cells ZA 24 (0, 0)) from F4.out.row R1.out (by show ¬ w.heap.size = q; omega))
  generalize hg4 : w3.heap.size = g4 at *
  generalize w3.alloc (.cells D 24) = w4 at *
  clear B4 hq1 hs1 hzv hg4
  go_wp2_with (first
    | (refine wpList_load_row rfl 24 (.tmp 3) rfl g4 rfl _ _ _ _ RD.out Try.underlying24 rfl U.out ?_)
    | (refine wpList_store_row rfl 24 (.tmp 2) (.tmp 14) rfl w.heap.size D rfl rfl _ _ RZ4.out U.out Z.out O.out ?_))
  refine bodyPost_ret (v := .agg D) (Go.results_cell_row Try.results45 _ _ w.heap.size _ _ _ _ (by rfl) (setRow_heap _ _ _ _ _ _ RZ4.out) Try.underlying24 rfl U.out) rfl ?_
  have hq := QW.out
  have hs := S1.out
  refine ⟨rfl, ?_, ?_⟩
  · exact R4.out.keep (by simp) (setRow_other _ _ _ _ (by omega)) fun k hk => setRow_other _ _ _ _ (by have := QB.out; omega)
  · exact ((Fr.below (S := (· = q)) HB.out).trans F4.out).setRow (Nat.le_refl _) D
end Go.Proofs.Ytbhcpbihbecphaa.sxC

/-
  Regions that draw their order, in which some operations write (stores, appends), each waiting for the one before: a chain. All others only make memory, or read.
-/
namespace Go.Proofs.Ytbhcpbihbecphaa.freeC
open Go.ChangeShapes Go.WideShapes Go.ChangeAt Go.RowKit
set_option linter.unusedVariables false
section
variable {P : Program} {L : List Oper} {Q : Exit → Act → World → Prop}
/-- what is asked of an operation: of one that is no part of the chain C, that it makes memory alone; of the chain's p-th, that it leads from R p to R (p + 1) -/
def StepC (P : Program) (L : List Oper) (Q : Exit → Act → World → Prop) (tab : List (Option Nat)) (a : Act) (B : Nat) (C : List Nat) (G : World → Prop) (V : Nat → Value → World → Prop) (R : Nat → (Nat → Value) → World → Prop) (i : Nat) (o : Oper) : Prop :=
  ∀ (m : Nat → Bool) us w, B ≤ w.heap.size → G w → (∀ j, j ∉ C → m j = true → V j (us j) w) → doneB o m = true →
    (i ∉ C → if Region.wanted o (yielded L.toArray (frame tab a us).tmps) then o.wp P (frame tab a us) w (fun a' w' => ∃ v, a' = (frame tab a us).put o.dst v ∧ Below w.heap.size w w' ∧ V i v w') Q else V i undef w) ∧
    (∀ p, C[p]? = some i → R p us w → if Region.wanted o (yielded L.toArray (frame tab a us).tmps) then o.wp P (frame tab a us) w (fun a' w' => ∃ v, a' = (frame tab a us).put o.dst v ∧ Below B w w' ∧ R (p + 1) (upd us i v) w') Q else R (p + 1) (upd us i undef) w)
def links (L : List Oper) : List Nat → Bool
  | x :: y :: r => (match L[y]? with | some o => o.after.any fun e => Region.binds .any e && (e.on == x) | none => false) && links L (y :: r)
  | _ => true
theorem links_at {L : List Oper} : ∀ {C : List Nat}, links L C = true → ∀ p x y o, C[p]? = some x → C[p + 1]? = some y → L[y]? = some o → ∀ m, doneB o m = true → m x = true
  | [], _, p, x, y, o, h, _, _, _, _ => by simp at h
  | [z], _, p, x, y, o, _, h, _, _, _ => by simp at h
  | z :: z' :: r, hl, 0, x, y, o, h1, h2, ho, m, hd => by
    obtain rfl : z = x := by simpa using h1
    obtain rfl : z' = y := by simpa using h2
    simp only [links, Bool.and_eq_true, ho] at hl
    obtain ⟨e, he, h2⟩ := Array.any_eq_true'.1 hl.1
    simp only [Bool.and_eq_true, beq_iff_eq] at h2
    have h3 := Array.all_eq_true'.1 hd e he
    rw [h2.1, h2.2] at h3
    simpa using h3
  | z :: z' :: r, hl, p + 1, x, y, o, h1, h2, ho, m, hd => by
    simp only [links, Bool.and_eq_true] at hl
    exact links_at hl.2 p x y o (by simpa using h1) (by simpa using h2) ho m hd
theorem nodup_at {C : List Nat} (hnd : C.Nodup) {p q x : Nat} (hp : C[p]? = some x) (hq : C[q]? = some x) : p = q := by
  obtain ⟨hp1, hp2⟩ := List.getElem?_eq_some_iff.1 hp
  obtain ⟨hq1, hq2⟩ := List.getElem?_eq_some_iff.1 hq
  have h := List.pairwise_iff_getElem.1 hnd
  rcases Nat.lt_trichotomy p q with h1 | h1 | h1
  · exact absurd (hp2.trans hq2.symm) (h p q hp1 hq1 h1)
  · exact h1
  · exact absurd (hq2.trans hp2.symm) (h q p hq1 hp1 h1)
theorem wp_region_chain {id : Nat} {a : Act} {w : World} (hm : P.follows .mixedOrders = true) (tab : List (Option Nat)) (hb : backE L = true) (ht : slots tab L = true) (hl : tab.length = a.tmps.size)
    (us0 : Nat → Value) (ha : frame tab a us0 = a) (B : Nat) (C : List Nat) (hC : links L C = true) (hnd : C.Nodup) (hin : ∀ x ∈ C, x < L.length)
    (G : World → Prop) (V : Nat → Value → World → Prop) (R : Nat → (Nat → Value) → World → Prop) (hB : B ≤ w.heap.size) (hG : G w.drew) (h0 : R 0 us0 w.drew)
    (hkG : ∀ w w', B ≤ w.heap.size → Below B w w' → G w → G w') (hkV : ∀ i v w w', B ≤ w.heap.size → Below B w w' → V i v w → V i v w')
    (hkR : ∀ k us us' w w', (∀ x ∈ C, us' x = us x) → B ≤ w.heap.size → Below w.heap.size w w' → R k us w → R k us' w')
    (hstep : AllFrom (StepC P L Q tab a B C G V R) 0 L)
    (hend : ∀ us w, B ≤ w.heap.size → G w → (∀ i, i < L.length → i ∉ C → V i (us i) w) → R C.length us w → Q .normal (frame tab a us) w) : (Code.region id L.toArray true).wp P Q a w := by
  refine wp_region_free hm tab hb ht hl us0 ha (fun m us w => B ≤ w.heap.size ∧ G w ∧ (∀ j, j ∉ C → m j = true → V j (us j) w) ∧ ∃ k, k ≤ C.length ∧ (∀ j x, C[j]? = some x → (m x = true ↔ j < k)) ∧ R k us w)
    ⟨(by simpa using hB), hG, (fun j _ h => by cases h), 0, Nat.zero_le _, (fun j x _ => by simp), h0⟩ ?_ ?_
  · intro i o ho m us w' ⟨hb', hg, hv, k, hk, hcm, hr⟩ hmi hd
    have hs := all_from L 0 hstep i o ho m us w' hb' hg hv hd
    rw [Nat.zero_add] at hs
    by_cases hi : i ∈ C
    · obtain ⟨p, hp⟩ := List.getElem?_of_mem hi
      have hkp : k = p := by
        have h1 : ¬ p < k := fun h => by rw [(hcm p i hp).2 h] at hmi; cases hmi
        rcases Nat.eq_zero_or_pos p with h2 | h2
        · omega
        · obtain ⟨q, rfl⟩ : ∃ q, p = q + 1 := ⟨p - 1, by omega⟩
          have hq : q < C.length := by have := (List.getElem?_eq_some_iff.1 hp).1; omega
          have e := List.getElem?_eq_getElem hq
          have := (hcm q _ e).1 (links_at hC q _ i o e hp ho m hd)
          omega
      subst hkp
      have hs2 := hs.2 k hp hr
      have hset : ∀ v w'', Below B w' w'' → R (k + 1) (upd us i v) w'' → B ≤ w''.heap.size ∧ G w'' ∧ (∀ j, j ∉ C → upd m i true j = true → V j (upd us i v j) w'') ∧ ∃ k, k ≤ C.length ∧ (∀ j x, C[j]? = some x → (upd m i true x = true ↔ j < k)) ∧ R k (upd us i v) w'' := fun v w'' hb2 hr2 => by
        refine ⟨Nat.le_trans hb' hb2.size, hkG _ _ hb' hb2 hg, fun j hj hm' => ?_, k + 1, ?_, fun j x hx => ?_, hr2⟩
        · have hji : j ≠ i := fun e => hj (e ▸ hi)
          rw [upd_other _ _ hji] at hm' ⊢
          exact hkV _ _ _ _ hb' hb2 (hv j hj hm')
        · have := (List.getElem?_eq_some_iff.1 hp).1; omega
        · by_cases hx2 : x = i
          · subst hx2
            have hjk : j = k := nodup_at hnd hx hp
            rw [upd_same]; simp [hjk]
          · rw [upd_other _ _ hx2, hcm j x hx]
            have hjk : j ≠ k := fun e => by rw [e, hp] at hx; exact hx2 (Option.some.inj hx).symm
            omega
      split
      · rename_i hw
        rw [if_pos hw] at hs2
        refine Oper.wp_mono (fun a2 w2 h2 => ?_) hs2
        obtain ⟨v, ha, hb2, hr2⟩ := h2
        exact ⟨v, ha, hset v w2 hb2 hr2⟩
      · rename_i hw
        rw [if_neg hw] at hs2
        exact hset undef w' (Below.refl _ _) hs2
    · have hs1 := hs.1 hi
      have hset : ∀ v w'', Below w'.heap.size w' w'' → V i v w'' → B ≤ w''.heap.size ∧ G w'' ∧ (∀ j, j ∉ C → upd m i true j = true → V j (upd us i v j) w'') ∧ ∃ k, k ≤ C.length ∧ (∀ j x, C[j]? = some x → (upd m i true x = true ↔ j < k)) ∧ R k (upd us i v) w'' := fun v w'' hb2 hv2 => by
        have hb3 := hb2.mono hb'
        refine ⟨Nat.le_trans hb' hb2.size, hkG _ _ hb' hb3 hg, fun j hj hm' => ?_, k, hk, fun j x hx => ?_, hkR k us (upd us i v) w' w'' (fun x hx => ?_) hb' hb2 hr⟩
        · by_cases hji : j = i
          · subst hji; rw [upd_same]; exact hv2
          · rw [upd_other _ _ hji] at hm' ⊢
            exact hkV _ _ _ _ hb' hb3 (hv j hj hm')
        · have hxi : x ≠ i := fun e => hi (e ▸ List.mem_of_getElem? hx)
          rw [upd_other _ _ hxi]; exact hcm j x hx
        · have hxi : x ≠ i := fun e => hi (e ▸ hx)
          rw [upd_other _ _ hxi]
      split
      · rename_i hw
        rw [if_pos hw] at hs1
        refine Oper.wp_mono (fun a2 w2 h2 => ?_) hs1
        obtain ⟨v, ha, hb2, hv2⟩ := h2
        exact ⟨v, ha, hset v w2 hb2 hv2⟩
      · rename_i hw
        rw [if_neg hw] at hs1
        exact hset undef w' (Below.refl _ _) hs1
  · intro m us w' hm' ⟨hb', hg, hv, k, hk, hcm, hr⟩
    have hkl : k = C.length := by
      rcases Nat.lt_or_ge k C.length with h | h
      · have e := List.getElem?_eq_getElem h
        have := (hcm k _ e).1 (hm' _ (hin _ (List.getElem_mem h)))
        omega
      · omega
    subst hkl
    exact hend us w' hb' hg (fun i hi hc => hv i hc (hm' i hi)) hr
variable {o : Oper} {a : Act} {tab : List (Option Nat)} {B : Nat} {C : List Nat} {G : World → Prop} {V : Nat → Value → World → Prop} {R : Nat → (Nat → Value) → World → Prop} {i : Nat}
/-- an operation that only makes memory -/
theorem stepC_val (need : List Nat) (hn : needs o need = true) (hc : (need.all fun j => !C.contains j) = true) (hi : C.contains i = false) (hg : o.guard = none)
    (h : ∀ us w, B ≤ w.heap.size → G w → (∀ j, j ∈ need → V j (us j) w) → o.wp P (frame tab a us) w (fun a' w' => ∃ v, a' = (frame tab a us).put o.dst v ∧ Below w.heap.size w w' ∧ V i v w') Q) : StepC P L Q tab a B C G V R i o := by
  intro m us w hB hG hV hd
  have hiC : i ∉ C := fun e => by rw [List.contains_iff_mem.2 e] at hi; cases hi
  refine ⟨fun _ => ?_, fun p hp => absurd (List.mem_of_getElem? hp) hiC⟩
  rw [if_pos (show Region.wanted o (yielded L.toArray (frame tab a us).tmps) = true by simp [Region.wanted, hg])]
  exact h us w hB hG fun j hj => hV j (fun e => by have h1 := List.all_eq_true.1 hc j hj; rw [List.contains_iff_mem.2 e] at h1; cases h1) (need_ok hn hd j hj)
/-- .. behind a guard that says b, as is known -/
theorem stepC_guard (need : List Nat) (hn : needs o need = true) (hc : (need.all fun j => !C.contains j) = true) (hi : C.contains i = false) {j t : Nat} {b : Bool} (hg : o.guard = some (j, b)) (hj : j ∈ need) (hL : (L[j]?).bind (·.dst) = some t) (hl : tab.length = a.tmps.size) (ht : (tab[t]?).join = some j)
    (hv : ∀ v w, V j v w → v = .bool b)
    (h : ∀ us w, B ≤ w.heap.size → G w → (∀ j, j ∈ need → V j (us j) w) → o.wp P (frame tab a us) w (fun a' w' => ∃ v, a' = (frame tab a us).put o.dst v ∧ Below w.heap.size w w' ∧ V i v w') Q) : StepC P L Q tab a B C G V R i o := by
  intro m us w hB hG hV hd
  have hiC : i ∉ C := fun e => by rw [List.contains_iff_mem.2 e] at hi; cases hi
  have hV2 : ∀ j, j ∈ need → V j (us j) w := fun j hj => hV j (fun e => by have h1 := List.all_eq_true.1 hc j hj; rw [List.contains_iff_mem.2 e] at h1; cases h1) (need_ok hn hd j hj)
  refine ⟨fun _ => ?_, fun p hp => absurd (List.mem_of_getElem? hp) hiC⟩
  have hy := yield_at (L := L) (us := us) hl hL ht (hv _ _ (hV2 j hj))
  rw [if_pos (show Region.wanted o (yielded L.toArray (frame tab a us).tmps) = true by simp [Region.wanted, hg, hy])]
  exact h us w hB hG hV2
/-- .. that is not wanted -/
theorem stepC_skip (need : List Nat) (hn : needs o need = true) (hc : (need.all fun j => !C.contains j) = true) (hi : C.contains i = false) {j t : Nat} {b : Bool} (hg : o.guard = some (j, b)) (hj : j ∈ need) (hL : (L[j]?).bind (·.dst) = some t) (hl : tab.length = a.tmps.size) (ht : (tab[t]?).join = some j)
    (hv : ∀ v w, V j v w → v = .bool !b) (h : ∀ w, V i undef w) : StepC P L Q tab a B C G V R i o := by
  intro m us w hB hG hV hd
  have hiC : i ∉ C := fun e => by rw [List.contains_iff_mem.2 e] at hi; cases hi
  have hV2 : ∀ j, j ∈ need → V j (us j) w := fun j hj => hV j (fun e => by have h1 := List.all_eq_true.1 hc j hj; rw [List.contains_iff_mem.2 e] at h1; cases h1) (need_ok hn hd j hj)
  refine ⟨fun _ => ?_, fun p hp => absurd (List.mem_of_getElem? hp) hiC⟩
  have hy := yield_at (L := L) (us := us) hl hL ht (hv _ _ (hV2 j hj))
  rw [if_neg (by simp [Region.wanted, hg, hy])]
  exact h w
/-- the chain's p-th -/
theorem stepC_chain (p : Nat) (hp : C[p]? = some i) (hnd : C.Nodup) (need : List Nat) (hn : needs o need = true) (hc : (need.all fun j => !C.contains j) = true) (hg : o.guard = none)
    (h : ∀ us w, B ≤ w.heap.size → G w → (∀ j, j ∈ need → V j (us j) w) → R p us w → o.wp P (frame tab a us) w (fun a' w' => ∃ v, a' = (frame tab a us).put o.dst v ∧ Below B w w' ∧ R (p + 1) (upd us i v) w') Q) : StepC P L Q tab a B C G V R i o := by
  intro m us w hB hG hV hd
  refine ⟨fun hi => absurd (List.mem_of_getElem? hp) hi, fun q hq hr => ?_⟩
  have hqp : q = p := nodup_at hnd hq hp
  subst hqp
  rw [if_pos (show Region.wanted o (yielded L.toArray (frame tab a us).tmps) = true by simp [Region.wanted, hg])]
  exact h us w hB hG (fun j hj => hV j (fun e => by have h1 := List.all_eq_true.1 hc j hj; rw [List.contains_iff_mem.2 e] at h1; cases h1) (need_ok hn hd j hj)) hr
/-- .. behind a guard that says b, as is known -/
theorem stepC_chainG (p : Nat) (hp : C[p]? = some i) (hnd : C.Nodup) (need : List Nat) (hn : needs o need = true) (hc : (need.all fun j => !C.contains j) = true) {j t : Nat} {b : Bool} (hg : o.guard = some (j, b)) (hj : j ∈ need) (hL : (L[j]?).bind (·.dst) = some t) (hl : tab.length = a.tmps.size) (ht : (tab[t]?).join = some j)
    (hv : ∀ v w, V j v w → v = .bool b)
    (h : ∀ us w, B ≤ w.heap.size → G w → (∀ j, j ∈ need → V j (us j) w) → R p us w → o.wp P (frame tab a us) w (fun a' w' => ∃ v, a' = (frame tab a us).put o.dst v ∧ Below B w w' ∧ R (p + 1) (upd us i v) w') Q) : StepC P L Q tab a B C G V R i o := by
  intro m us w hB hG hV hd
  have hV2 : ∀ j, j ∈ need → V j (us j) w := fun j hj => hV j (fun e => by have h1 := List.all_eq_true.1 hc j hj; rw [List.contains_iff_mem.2 e] at h1; cases h1) (need_ok hn hd j hj)
  refine ⟨fun hi => absurd (List.mem_of_getElem? hp) hi, fun q hq hr => ?_⟩
  have hqp : q = p := nodup_at hnd hq hp
  subst hqp
  have hy := yield_at (L := L) (us := us) hl hL ht (hv _ _ (hV2 j hj))
  rw [if_pos (show Region.wanted o (yielded L.toArray (frame tab a us).tmps) = true by simp [Region.wanted, hg, hy])]
  exact h us w hB hG hV2 hr
variable {w w' : World} {K : Act → World → Prop}
/-- an operation that answers a value at once, in such a region -/
theorem val_C {fr : Act} {v : Value} (hr : (execOp fr.eval o).run P w = .ok (.value v) w') (hb : Below w.heap.size w w') (hV : V i v w') :
    o.wp P fr w (fun a' w' => ∃ v, a' = fr.put o.dst v ∧ Below w.heap.size w w' ∧ V i v w') Q := free_val hr ⟨v, rfl, hb, hV⟩
theorem load_C {fr : Act} (ty : TypeId) (s : Tmp) (ho : o.op = .load ty (.tmp s)) (g : Nat) (hx : fr.tmps[s]?.getD undef = .pointer (some ⟨g, 0, none⟩)) (t : TypeId) (cs : Array Value) (f : Nat × Nat) (d : TypeDesc) (hg : w.heap[g]? = some (.cells cs t f))
    (hu : P.underlying ty = some d) (hd : (match d with | .struct _ | .array _ _ => true | _ => false) = true) (hi : (P.info? ty).map (·.size) = some cs.size) (hV : V i (.agg cs) w) :
    o.wp P fr w (fun a' w' => ∃ v, a' = fr.put o.dst v ∧ Below w.heap.size w w' ∧ V i v w') Q :=
  wp_load_row ty (.tmp s) ho g (by simpa only [Act.eval, Array.getD_eq_getD_getElem?] using hx) t cs f d hg hu hd hi ⟨_, rfl, Below.refl _ _, hV⟩
theorem call_C {fr : Act} {f : FuncId} {args : Array Value} (hr : (execOp fr.eval o).run P w = .ok (.enter f args) w) (h : Calls P f args w fun e w' => ∃ v, e = .returned v ∧ Below w.heap.size w w' ∧ V i v w') :
    o.wp P fr w (fun a' w' => ∃ v, a' = fr.put o.dst v ∧ Below w.heap.size w w' ∧ V i v w') Q := free_call hr (h.mono fun e w' ⟨v, he, h2, h3⟩ => ⟨v, he, v, rfl, h2, h3⟩)
end
end Go.Proofs.Ytbhcpbihbecphaa.freeC

/-
  Regions that draw their order, in which some operations write, each waiting for the one before (as in Chn); what the writes do is told by a relation D, so that values of the others (a literal that was just laid) may speak of what D leaves alone.
-/
namespace Go.Proofs.Ytbhcpbihbecphaa.freeC
open Go.ChangeShapes Go.WideShapes Go.ChangeAt Go.RowKit
set_option linter.unusedVariables false
/-- nothing turned but block g -/
def OnlyAt (g : Nat) (w w' : World) : Prop := Below g w w' ∧ ∀ k, k ≠ g → w'.heap[k]? = w.heap[k]?
theorem OnlyAt.setRow (g : Nat) (w : World) (cs : Array Value) : OnlyAt g w (w.setRow g cs) := ⟨⟨rfl, rfl, rfl, by simp, fun k hk => setRow_other _ _ _ _ (by omega)⟩, fun k hk => setRow_other _ _ _ _ hk⟩
theorem OnlyAt.refl (g : Nat) (w : World) : OnlyAt g w w := ⟨Below.refl _ _, fun _ _ => rfl⟩
/-- a row that is not g stands -/
theorem keep_row {g k : Nat} {w w' : World} {o : Obj} (hd : Below w.heap.size w w' ∨ OnlyAt g w w') (hk : k ≠ g) (h : w.heap[k]? = some o) : w'.heap[k]? = some o := by
  have hl : k < w.heap.size := by
    rcases Nat.lt_or_ge k w.heap.size with h' | h'
    · exact h'
    · rw [Array.getElem?_eq_none h'] at h; cases h
  rcases hd with hd | hd
  · rw [hd.block k hl]; exact h
  · rw [hd.2 k hk]; exact h
/-- what lies below g stands -/
theorem keep_below {g B : Nat} {w0 w w' : World} (hd : Below w.heap.size w w' ∨ OnlyAt g w w') (hB : B ≤ g) (hw : B ≤ w.heap.size) (h : Below B w0 w) : Below B w0 w' := by
  rcases hd with hd | hd
  · exact h.trans (hd.mono hw)
  · exact h.trans (hd.1.mono hB)
section
variable {P : Program} {L : List Oper} {Q : Exit → Act → World → Prop}
/-- what is asked of an operation: of one that is no part of the chain C, that it makes memory alone; of the chain's p-th, that it leads from R p to R (p + 1) -/
def StepD (P : Program) (L : List Oper) (Q : Exit → Act → World → Prop) (tab : List (Option Nat)) (a : Act) (B : Nat) (D : World → World → Prop) (C : List Nat) (G : World → Prop) (V : Nat → Value → World → Prop) (R : Nat → (Nat → Value) → World → Prop) (i : Nat) (o : Oper) : Prop :=
  ∀ (m : Nat → Bool) us w, B ≤ w.heap.size → G w → (∀ j, j ∉ C → m j = true → V j (us j) w) → doneB o m = true →
    (i ∉ C → if Region.wanted o (yielded L.toArray (frame tab a us).tmps) then o.wp P (frame tab a us) w (fun a' w' => ∃ v, a' = (frame tab a us).put o.dst v ∧ Below w.heap.size w w' ∧ V i v w') Q else V i undef w) ∧
    (∀ p, C[p]? = some i → R p us w → if Region.wanted o (yielded L.toArray (frame tab a us).tmps) then o.wp P (frame tab a us) w (fun a' w' => ∃ v, a' = (frame tab a us).put o.dst v ∧ (D w w' ∧ Below B w w') ∧ R (p + 1) (upd us i v) w') Q else R (p + 1) (upd us i undef) w)
theorem wp_region_chd {id : Nat} {a : Act} {w : World} (hm : P.follows .mixedOrders = true) (tab : List (Option Nat)) (hb : backE L = true) (ht : slots tab L = true) (hl : tab.length = a.tmps.size)
    (us0 : Nat → Value) (ha : frame tab a us0 = a) (B : Nat) (D : World → World → Prop) (C : List Nat) (hC : links L C = true) (hnd : C.Nodup) (hin : ∀ x ∈ C, x < L.length)
    (G : World → Prop) (V : Nat → Value → World → Prop) (R : Nat → (Nat → Value) → World → Prop) (hB : B ≤ w.heap.size) (hG : G w.drew) (h0 : R 0 us0 w.drew)
    (hkG : ∀ w w', B ≤ w.heap.size → (Below w.heap.size w w' ∨ D w w') → G w → G w') (hkV : ∀ i v w w', B ≤ w.heap.size → (Below w.heap.size w w' ∨ D w w') → V i v w → V i v w')
    (hkR : ∀ k us us' w w', (∀ x ∈ C, us' x = us x) → B ≤ w.heap.size → Below w.heap.size w w' → R k us w → R k us' w')
    (hstep : AllFrom (StepD P L Q tab a B D C G V R) 0 L)
    (hend : ∀ us w, B ≤ w.heap.size → G w → (∀ i, i < L.length → i ∉ C → V i (us i) w) → R C.length us w → Q .normal (frame tab a us) w) : (Code.region id L.toArray true).wp P Q a w := by
  refine wp_region_free hm tab hb ht hl us0 ha (fun m us w => B ≤ w.heap.size ∧ G w ∧ (∀ j, j ∉ C → m j = true → V j (us j) w) ∧ ∃ k, k ≤ C.length ∧ (∀ j x, C[j]? = some x → (m x = true ↔ j < k)) ∧ R k us w)
    ⟨(by simpa using hB), hG, (fun j _ h => by cases h), 0, Nat.zero_le _, (fun j x _ => by simp), h0⟩ ?_ ?_
  · intro i o ho m us w' ⟨hb', hg, hv, k, hk, hcm, hr⟩ hmi hd
    have hs := all_from L 0 hstep i o ho m us w' hb' hg hv hd
    rw [Nat.zero_add] at hs
    by_cases hi : i ∈ C
    · obtain ⟨p, hp⟩ := List.getElem?_of_mem hi
      have hkp : k = p := by
        have h1 : ¬ p < k := fun h => by rw [(hcm p i hp).2 h] at hmi; cases hmi
        rcases Nat.eq_zero_or_pos p with h2 | h2
        · omega
        · obtain ⟨q, rfl⟩ : ∃ q, p = q + 1 := ⟨p - 1, by omega⟩
          have hq : q < C.length := by have := (List.getElem?_eq_some_iff.1 hp).1; omega
          have e := List.getElem?_eq_getElem hq
          have := (hcm q _ e).1 (links_at hC q _ i o e hp ho m hd)
          omega
      subst hkp
      have hs2 := hs.2 k hp hr
      have hset : ∀ v w'', (w'' = w' ∨ D w' w'') → Below B w' w'' → R (k + 1) (upd us i v) w'' → B ≤ w''.heap.size ∧ G w'' ∧ (∀ j, j ∉ C → upd m i true j = true → V j (upd us i v j) w'') ∧ ∃ k, k ≤ C.length ∧ (∀ j x, C[j]? = some x → (upd m i true x = true ↔ j < k)) ∧ R k (upd us i v) w'' := fun v w'' hd2 hb2 hr2 => by
        refine ⟨Nat.le_trans hb' hb2.size, (by rcases hd2 with rfl | hd2
                                               · exact hg
                                               · exact hkG _ _ hb' (.inr hd2) hg), fun j hj hm' => ?_, k + 1, ?_, fun j x hx => ?_, hr2⟩
        · have hji : j ≠ i := fun e => hj (e ▸ hi)
          rw [upd_other _ _ hji] at hm' ⊢
          rcases hd2 with rfl | hd2
          · exact hv j hj hm'
          · exact hkV _ _ _ _ hb' (.inr hd2) (hv j hj hm')
        · have := (List.getElem?_eq_some_iff.1 hp).1; omega
        · by_cases hx2 : x = i
          · subst hx2
            have hjk : j = k := nodup_at hnd hx hp
            rw [upd_same]; simp [hjk]
          · rw [upd_other _ _ hx2, hcm j x hx]
            have hjk : j ≠ k := fun e => by rw [e, hp] at hx; exact hx2 (Option.some.inj hx).symm
            omega
      split
      · rename_i hw
        rw [if_pos hw] at hs2
        refine Oper.wp_mono (fun a2 w2 h2 => ?_) hs2
        obtain ⟨v, ha, ⟨hd2, hb2⟩, hr2⟩ := h2
        exact ⟨v, ha, hset v w2 (.inr hd2) hb2 hr2⟩
      · rename_i hw
        rw [if_neg hw] at hs2
        exact hset undef w' (.inl rfl) (Below.refl _ _) hs2
    · have hs1 := hs.1 hi
      have hset : ∀ v w'', Below w'.heap.size w' w'' → V i v w'' → B ≤ w''.heap.size ∧ G w'' ∧ (∀ j, j ∉ C → upd m i true j = true → V j (upd us i v j) w'') ∧ ∃ k, k ≤ C.length ∧ (∀ j x, C[j]? = some x → (upd m i true x = true ↔ j < k)) ∧ R k (upd us i v) w'' := fun v w'' hb2 hv2 => by
        have hb3 := hb2.mono hb'
        refine ⟨Nat.le_trans hb' hb2.size, hkG _ _ hb' (.inl hb2) hg, fun j hj hm' => ?_, k, hk, fun j x hx => ?_, hkR k us (upd us i v) w' w'' (fun x hx => ?_) hb' hb2 hr⟩
        · by_cases hji : j = i
          · subst hji; rw [upd_same]; exact hv2
          · rw [upd_other _ _ hji] at hm' ⊢
            exact hkV _ _ _ _ hb' (.inl hb2) (hv j hj hm')
        · have hxi : x ≠ i := fun e => hi (e ▸ List.mem_of_getElem? hx)
          rw [upd_other _ _ hxi]; exact hcm j x hx
        · have hxi : x ≠ i := fun e => hi (e ▸ hx)
          rw [upd_other _ _ hxi]
      split
      · rename_i hw
        rw [if_pos hw] at hs1
        refine Oper.wp_mono (fun a2 w2 h2 => ?_) hs1
        obtain ⟨v, ha, hb2, hv2⟩ := h2
        exact ⟨v, ha, hset v w2 hb2 hv2⟩
      · rename_i hw
        rw [if_neg hw] at hs1
        exact hset undef w' (Below.refl _ _) hs1
  · intro m us w' hm' ⟨hb', hg, hv, k, hk, hcm, hr⟩
    have hkl : k = C.length := by
      rcases Nat.lt_or_ge k C.length with h | h
      · have e := List.getElem?_eq_getElem h
        have := (hcm k _ e).1 (hm' _ (hin _ (List.getElem_mem h)))
        omega
      · omega
    subst hkl
    exact hend us w' hb' hg (fun i hi hc => hv i hc (hm' i hi)) hr
variable {o : Oper} {a : Act} {tab : List (Option Nat)} {B : Nat} {D : World → World → Prop} {C : List Nat} {G : World → Prop} {V : Nat → Value → World → Prop} {R : Nat → (Nat → Value) → World → Prop} {i : Nat}
/-- an operation that only makes memory -/
theorem stepD_val (need : List Nat) (hn : needs o need = true) (hc : (need.all fun j => !C.contains j) = true) (hi : C.contains i = false) (hg : o.guard = none)
    (h : ∀ us w, B ≤ w.heap.size → G w → (∀ j, j ∈ need → V j (us j) w) → o.wp P (frame tab a us) w (fun a' w' => ∃ v, a' = (frame tab a us).put o.dst v ∧ Below w.heap.size w w' ∧ V i v w') Q) : StepD P L Q tab a B D C G V R i o := by
  intro m us w hB hG hV hd
  have hiC : i ∉ C := fun e => by rw [List.contains_iff_mem.2 e] at hi; cases hi
  refine ⟨fun _ => ?_, fun p hp => absurd (List.mem_of_getElem? hp) hiC⟩
  rw [if_pos (show Region.wanted o (yielded L.toArray (frame tab a us).tmps) = true by simp [Region.wanted, hg])]
  exact h us w hB hG fun j hj => hV j (fun e => by have h1 := List.all_eq_true.1 hc j hj; rw [List.contains_iff_mem.2 e] at h1; cases h1) (need_ok hn hd j hj)
/-- .. behind a guard that says b, as is known -/
theorem stepD_guard (need : List Nat) (hn : needs o need = true) (hc : (need.all fun j => !C.contains j) = true) (hi : C.contains i = false) {j t : Nat} {b : Bool} (hg : o.guard = some (j, b)) (hj : j ∈ need) (hL : (L[j]?).bind (·.dst) = some t) (hl : tab.length = a.tmps.size) (ht : (tab[t]?).join = some j)
    (hv : ∀ v w, V j v w → v = .bool b)
    (h : ∀ us w, B ≤ w.heap.size → G w → (∀ j, j ∈ need → V j (us j) w) → o.wp P (frame tab a us) w (fun a' w' => ∃ v, a' = (frame tab a us).put o.dst v ∧ Below w.heap.size w w' ∧ V i v w') Q) : StepD P L Q tab a B D C G V R i o := by
  intro m us w hB hG hV hd
  have hiC : i ∉ C := fun e => by rw [List.contains_iff_mem.2 e] at hi; cases hi
  have hV2 : ∀ j, j ∈ need → V j (us j) w := fun j hj => hV j (fun e => by have h1 := List.all_eq_true.1 hc j hj; rw [List.contains_iff_mem.2 e] at h1; cases h1) (need_ok hn hd j hj)
  refine ⟨fun _ => ?_, fun p hp => absurd (List.mem_of_getElem? hp) hiC⟩
  have hy := yield_at (L := L) (us := us) hl hL ht (hv _ _ (hV2 j hj))
  rw [if_pos (show Region.wanted o (yielded L.toArray (frame tab a us).tmps) = true by simp [Region.wanted, hg, hy])]
  exact h us w hB hG hV2
/-- .. that is not wanted -/
theorem stepD_skip (need : List Nat) (hn : needs o need = true) (hc : (need.all fun j => !C.contains j) = true) (hi : C.contains i = false) {j t : Nat} {b : Bool} (hg : o.guard = some (j, b)) (hj : j ∈ need) (hL : (L[j]?).bind (·.dst) = some t) (hl : tab.length = a.tmps.size) (ht : (tab[t]?).join = some j)
    (hv : ∀ v w, V j v w → v = .bool !b) (h : ∀ w, V i undef w) : StepD P L Q tab a B D C G V R i o := by
  intro m us w hB hG hV hd
  have hiC : i ∉ C := fun e => by rw [List.contains_iff_mem.2 e] at hi; cases hi
  have hV2 : ∀ j, j ∈ need → V j (us j) w := fun j hj => hV j (fun e => by have h1 := List.all_eq_true.1 hc j hj; rw [List.contains_iff_mem.2 e] at h1; cases h1) (need_ok hn hd j hj)
  refine ⟨fun _ => ?_, fun p hp => absurd (List.mem_of_getElem? hp) hiC⟩
  have hy := yield_at (L := L) (us := us) hl hL ht (hv _ _ (hV2 j hj))
  rw [if_neg (by simp [Region.wanted, hg, hy])]
  exact h w
/-- the chain's p-th -/
theorem stepD_chain (p : Nat) (hp : C[p]? = some i) (hnd : C.Nodup) (need : List Nat) (hn : needs o need = true) (hc : (need.all fun j => !C.contains j) = true) (hg : o.guard = none)
    (h : ∀ us w, B ≤ w.heap.size → G w → (∀ j, j ∈ need → V j (us j) w) → R p us w → o.wp P (frame tab a us) w (fun a' w' => ∃ v, a' = (frame tab a us).put o.dst v ∧ (D w w' ∧ Below B w w') ∧ R (p + 1) (upd us i v) w') Q) : StepD P L Q tab a B D C G V R i o := by
  intro m us w hB hG hV hd
  refine ⟨fun hi => absurd (List.mem_of_getElem? hp) hi, fun q hq hr => ?_⟩
  have hqp : q = p := nodup_at hnd hq hp
  subst hqp
  rw [if_pos (show Region.wanted o (yielded L.toArray (frame tab a us).tmps) = true by simp [Region.wanted, hg])]
  exact h us w hB hG (fun j hj => hV j (fun e => by have h1 := List.all_eq_true.1 hc j hj; rw [List.contains_iff_mem.2 e] at h1; cases h1) (need_ok hn hd j hj)) hr
/-- .. behind a guard that says b, as is known -/
theorem stepD_chainG (p : Nat) (hp : C[p]? = some i) (hnd : C.Nodup) (need : List Nat) (hn : needs o need = true) (hc : (need.all fun j => !C.contains j) = true) {j t : Nat} {b : Bool} (hg : o.guard = some (j, b)) (hj : j ∈ need) (hL : (L[j]?).bind (·.dst) = some t) (hl : tab.length = a.tmps.size) (ht : (tab[t]?).join = some j)
    (hv : ∀ v w, V j v w → v = .bool b)
    (h : ∀ us w, B ≤ w.heap.size → G w → (∀ j, j ∈ need → V j (us j) w) → R p us w → o.wp P (frame tab a us) w (fun a' w' => ∃ v, a' = (frame tab a us).put o.dst v ∧ (D w w' ∧ Below B w w') ∧ R (p + 1) (upd us i v) w') Q) : StepD P L Q tab a B D C G V R i o := by
  intro m us w hB hG hV hd
  have hV2 : ∀ j, j ∈ need → V j (us j) w := fun j hj => hV j (fun e => by have h1 := List.all_eq_true.1 hc j hj; rw [List.contains_iff_mem.2 e] at h1; cases h1) (need_ok hn hd j hj)
  refine ⟨fun hi => absurd (List.mem_of_getElem? hp) hi, fun q hq hr => ?_⟩
  have hqp : q = p := nodup_at hnd hq hp
  subst hqp
  have hy := yield_at (L := L) (us := us) hl hL ht (hv _ _ (hV2 j hj))
  rw [if_pos (show Region.wanted o (yielded L.toArray (frame tab a us).tmps) = true by simp [Region.wanted, hg, hy])]
  exact h us w hB hG hV2 hr
end
end Go.Proofs.Ytbhcpbihbecphaa.freeC

/-
  Regions that draw their order, in which some operations write (as in Chd), where an operation may also know what stands until the writing one that waits for it.
-/
namespace Go.Proofs.Ytbhcpbihbecphaa.freeC
open Go.ChangeShapes Go.WideShapes Go.ChangeAt Go.RowKit
set_option linter.unusedVariables false
section
variable {P : Program} {L : List Oper} {Q : Exit → Act → World → Prop}
/-- an operation waits for the one that is i-th -/
def waitsE (o : Oper) (i : Nat) : Bool := o.after.any fun e => Region.binds .any e && (e.on == i)
theorem waitsE_done {o : Oper} {i : Nat} {m : Nat → Bool} (h : waitsE o i = true) (hd : doneB o m = true) : m i = true := by
  obtain ⟨e, he, h2⟩ := Array.any_eq_true'.1 h
  simp only [Bool.and_eq_true, beq_iff_eq] at h2
  have h3 := Array.all_eq_true'.1 hd e he
  rw [h2.1, h2.2] at h3
  simpa using h3
theorem doneB_more {o : Oper} {m : Nat → Bool} {i : Nat} (hd : doneB o m = true) : doneB o (upd m i true) = true := by
  refine Array.all_eq_true'.2 fun e he => ?_
  have h := Array.all_eq_true'.1 hd e he
  by_cases hb : Region.binds .any e = true
  · rw [hb] at h ⊢
    by_cases q : e.on = i
    · rw [q, upd_same]; simp
    · rw [upd_other _ _ q]; exact h
  · simp [hb]
/-- what is asked of an operation: of one that is no part of the chain C, that it makes memory alone; of the chain's p-th, that it leads from R p to R (p + 1) -/
def StepE (P : Program) (L : List Oper) (Q : Exit → Act → World → Prop) (tab : List (Option Nat)) (a : Act) (B : Nat) (D : World → World → Prop) (C : List Nat) (G : World → Prop) (V : Nat → Value → World → Prop) (R : Nat → (Nat → Value) → World → Prop) (i : Nat) (o : Oper) : Prop :=
  ∀ (m : Nat → Bool) us w, B ≤ w.heap.size → G w → (∀ j, j ∉ C → m j = true → V j (us j) w) → doneB o m = true →
    (i ∉ C → (∃ k, k ≤ C.length ∧ (∀ b x, C[b]? = some x → waitsE o x = true → b < k) ∧ (∀ b x o', C[b]? = some x → L[x]? = some o' → waitsE o' i = true → k ≤ b) ∧ R k us w) → if Region.wanted o (yielded L.toArray (frame tab a us).tmps) then o.wp P (frame tab a us) w (fun a' w' => ∃ v, a' = (frame tab a us).put o.dst v ∧ Below w.heap.size w w' ∧ V i v w') Q else V i undef w) ∧
    (∀ p, C[p]? = some i → R p us w → if Region.wanted o (yielded L.toArray (frame tab a us).tmps) then o.wp P (frame tab a us) w (fun a' w' => ∃ v, a' = (frame tab a us).put o.dst v ∧ (D w w' ∧ Below B w w') ∧ R (p + 1) (upd us i v) w') Q else R (p + 1) (upd us i undef) w)
theorem wp_region_che {id : Nat} {a : Act} {w : World} (hm : P.follows .mixedOrders = true) (tab : List (Option Nat)) (hb : backE L = true) (ht : slots tab L = true) (hl : tab.length = a.tmps.size)
    (us0 : Nat → Value) (ha : frame tab a us0 = a) (B : Nat) (D : World → World → Prop) (C : List Nat) (hC : links L C = true) (hnd : C.Nodup) (hin : ∀ x ∈ C, x < L.length)
    (G : World → Prop) (V : Nat → Value → World → Prop) (R : Nat → (Nat → Value) → World → Prop) (hB : B ≤ w.heap.size) (hG : G w.drew) (h0 : R 0 us0 w.drew)
    (hkG : ∀ w w', B ≤ w.heap.size → (Below w.heap.size w w' ∨ D w w') → G w → G w') (hkV : ∀ i v w w', B ≤ w.heap.size → (Below w.heap.size w w' ∨ D w w') → V i v w → V i v w')
    (hkR : ∀ k us us' w w', (∀ x ∈ C, us' x = us x) → B ≤ w.heap.size → Below w.heap.size w w' → R k us w → R k us' w')
    (hstep : AllFrom (StepE P L Q tab a B D C G V R) 0 L)
    (hend : ∀ us w, B ≤ w.heap.size → G w → (∀ i, i < L.length → i ∉ C → V i (us i) w) → R C.length us w → Q .normal (frame tab a us) w) : (Code.region id L.toArray true).wp P Q a w := by
  refine wp_region_free hm tab hb ht hl us0 ha (fun m us w => B ≤ w.heap.size ∧ G w ∧ (∀ j, j ∉ C → m j = true → V j (us j) w) ∧ ∃ k, k ≤ C.length ∧ (∀ j x, C[j]? = some x → (m x = true ↔ j < k)) ∧ (∀ x o', L[x]? = some o' → m x = true → doneB o' m = true) ∧ R k us w)
    ⟨(by simpa using hB), hG, (fun j _ h => by cases h), 0, Nat.zero_le _, (fun j x _ => by simp), (fun x o' _ h => by cases h), h0⟩ ?_ ?_
  · intro i o ho m us w' ⟨hb', hg, hv, k, hk, hcm, hcl, hr⟩ hmi hd
    have hs := all_from L 0 hstep i o ho m us w' hb' hg hv hd
    rw [Nat.zero_add] at hs
    have hcl2 : ∀ x o', L[x]? = some o' → upd m i true x = true → doneB o' (upd m i true) = true := fun x o' hx hm' => by
      by_cases q : x = i
      · subst q
        obtain rfl := Option.some.inj (ho.symm.trans hx)
        exact doneB_more hd
      · rw [upd_other _ _ q] at hm'
        exact doneB_more (hcl x o' hx hm')
    by_cases hi : i ∈ C
    · obtain ⟨p, hp⟩ := List.getElem?_of_mem hi
      have hkp : k = p := by
        have h1 : ¬ p < k := fun h => by rw [(hcm p i hp).2 h] at hmi; cases hmi
        rcases Nat.eq_zero_or_pos p with h2 | h2
        · omega
        · obtain ⟨q, rfl⟩ : ∃ q, p = q + 1 := ⟨p - 1, by omega⟩
          have hq : q < C.length := by have := (List.getElem?_eq_some_iff.1 hp).1; omega
          have e := List.getElem?_eq_getElem hq
          have := (hcm q _ e).1 (links_at hC q _ i o e hp ho m hd)
          omega
      subst hkp
      have hs2 := hs.2 k hp hr
      have hset : ∀ v w'', (w'' = w' ∨ D w' w'') → Below B w' w'' → R (k + 1) (upd us i v) w'' → B ≤ w''.heap.size ∧ G w'' ∧ (∀ j, j ∉ C → upd m i true j = true → V j (upd us i v j) w'') ∧ ∃ k, k ≤ C.length ∧ (∀ j x, C[j]? = some x → (upd m i true x = true ↔ j < k)) ∧ (∀ x o', L[x]? = some o' → upd m i true x = true → doneB o' (upd m i true) = true) ∧ R k (upd us i v) w'' := fun v w'' hd2 hb2 hr2 => by
        refine ⟨Nat.le_trans hb' hb2.size, (by rcases hd2 with rfl | hd2
                                               · exact hg
                                               · exact hkG _ _ hb' (.inr hd2) hg), fun j hj hm' => ?_, k + 1, ?_, fun j x hx => ?_, hcl2, hr2⟩
        · have hji : j ≠ i := fun e => hj (e ▸ hi)
          rw [upd_other _ _ hji] at hm' ⊢
          rcases hd2 with rfl | hd2
          · exact hv j hj hm'
          · exact hkV _ _ _ _ hb' (.inr hd2) (hv j hj hm')
        · have := (List.getElem?_eq_some_iff.1 hp).1; omega
        · by_cases hx2 : x = i
          · subst hx2
            have hjk : j = k := nodup_at hnd hx hp
            rw [upd_same]; simp [hjk]
          · rw [upd_other _ _ hx2, hcm j x hx]
            have hjk : j ≠ k := fun e => by rw [e, hp] at hx; exact hx2 (Option.some.inj hx).symm
            omega
      split
      · rename_i hw
        rw [if_pos hw] at hs2
        refine Oper.wp_mono (fun a2 w2 h2 => ?_) hs2
        obtain ⟨v, ha, ⟨hd2, hb2⟩, hr2⟩ := h2
        exact ⟨v, ha, hset v w2 (.inr hd2) hb2 hr2⟩
      · rename_i hw
        rw [if_neg hw] at hs2
        exact hset undef w' (.inl rfl) (Below.refl _ _) hs2
    · have hs1 := hs.1 hi ⟨k, hk, fun b x hx hw => (hcm b x hx).1 (waitsE_done hw hd), fun b x o' hx hox hw => by
        rcases Nat.lt_or_ge b k with h | h
        · have h1 := waitsE_done hw (hcl x o' hox ((hcm b x hx).2 h))
          rw [h1] at hmi; cases hmi
        · exact h, hr⟩
      have hset : ∀ v w'', Below w'.heap.size w' w'' → V i v w'' → B ≤ w''.heap.size ∧ G w'' ∧ (∀ j, j ∉ C → upd m i true j = true → V j (upd us i v j) w'') ∧ ∃ k, k ≤ C.length ∧ (∀ j x, C[j]? = some x → (upd m i true x = true ↔ j < k)) ∧ (∀ x o', L[x]? = some o' → upd m i true x = true → doneB o' (upd m i true) = true) ∧ R k (upd us i v) w'' := fun v w'' hb2 hv2 => by
        have hb3 := hb2.mono hb'
        refine ⟨Nat.le_trans hb' hb2.size, hkG _ _ hb' (.inl hb2) hg, fun j hj hm' => ?_, k, hk, fun j x hx => ?_, hcl2, hkR k us (upd us i v) w' w'' (fun x hx => ?_) hb' hb2 hr⟩
        · by_cases hji : j = i
          · subst hji; rw [upd_same]; exact hv2
          · rw [upd_other _ _ hji] at hm' ⊢
            exact hkV _ _ _ _ hb' (.inl hb2) (hv j hj hm')
        · have hxi : x ≠ i := fun e => hi (e ▸ List.mem_of_getElem? hx)
          rw [upd_other _ _ hxi]; exact hcm j x hx
        · have hxi : x ≠ i := fun e => hi (e ▸ hx)
          rw [upd_other _ _ hxi]
      split
      · rename_i hw
        rw [if_pos hw] at hs1
        refine Oper.wp_mono (fun a2 w2 h2 => ?_) hs1
        obtain ⟨v, ha, hb2, hv2⟩ := h2
        exact ⟨v, ha, hset v w2 hb2 hv2⟩
      · rename_i hw
        rw [if_neg hw] at hs1
        exact hset undef w' (Below.refl _ _) hs1
  · intro m us w' hm' ⟨hb', hg, hv, k, hk, hcm, hcl, hr⟩
    have hkl : k = C.length := by
      rcases Nat.lt_or_ge k C.length with h | h
      · have e := List.getElem?_eq_getElem h
        have := (hcm k _ e).1 (hm' _ (hin _ (List.getElem_mem h)))
        omega
      · omega
    subst hkl
    exact hend us w' hb' hg (fun i hi hc => hv i hc (hm' i hi)) hr
variable {o : Oper} {a : Act} {tab : List (Option Nat)} {B : Nat} {D : World → World → Prop} {C : List Nat} {G : World → Prop} {V : Nat → Value → World → Prop} {R : Nat → (Nat → Value) → World → Prop} {i : Nat}
/-- an operation that only makes memory -/
theorem stepE_val (need : List Nat) (hn : needs o need = true) (hc : (need.all fun j => !C.contains j) = true) (hi : C.contains i = false) (hg : o.guard = none)
    (h : ∀ us w, B ≤ w.heap.size → G w → (∀ j, j ∈ need → V j (us j) w) → o.wp P (frame tab a us) w (fun a' w' => ∃ v, a' = (frame tab a us).put o.dst v ∧ Below w.heap.size w w' ∧ V i v w') Q) : StepE P L Q tab a B D C G V R i o := by
  intro m us w hB hG hV hd
  have hiC : i ∉ C := fun e => by rw [List.contains_iff_mem.2 e] at hi; cases hi
  refine ⟨fun _ _ => ?_, fun p hp => absurd (List.mem_of_getElem? hp) hiC⟩
  rw [if_pos (show Region.wanted o (yielded L.toArray (frame tab a us).tmps) = true by simp [Region.wanted, hg])]
  exact h us w hB hG fun j hj => hV j (fun e => by have h1 := List.all_eq_true.1 hc j hj; rw [List.contains_iff_mem.2 e] at h1; cases h1) (need_ok hn hd j hj)
/-- .. that waits for the chain's (lo - 1)-th, and for which its hi-th waits -/
theorem stepE_early (lo hi : Nat) (hlo : lo = 0 ∨ ∃ x, C[lo - 1]? = some x ∧ waitsE o x = true) (hhi : hi = C.length ∨ ∃ x o', C[hi]? = some x ∧ L[x]? = some o' ∧ waitsE o' i = true) (need : List Nat) (hn : needs o need = true) (hc : (need.all fun j => !C.contains j) = true) (hi' : C.contains i = false) (hg : o.guard = none)
    (h : ∀ us w k, B ≤ w.heap.size → G w → (∀ j, j ∈ need → V j (us j) w) → lo ≤ k ∧ k ≤ hi → R k us w → o.wp P (frame tab a us) w (fun a' w' => ∃ v, a' = (frame tab a us).put o.dst v ∧ Below w.heap.size w w' ∧ V i v w') Q) : StepE P L Q tab a B D C G V R i o := by
  intro m us w hB hG hV hd
  have hiC : i ∉ C := fun e => by rw [List.contains_iff_mem.2 e] at hi'; cases hi'
  refine ⟨fun _ ⟨k, hkl, hk1, hk2, hr⟩ => ?_, fun p hp => absurd (List.mem_of_getElem? hp) hiC⟩
  rw [if_pos (show Region.wanted o (yielded L.toArray (frame tab a us).tmps) = true by simp [Region.wanted, hg])]
  refine h us w k hB hG (fun j hj => hV j (fun e => by have h1 := List.all_eq_true.1 hc j hj; rw [List.contains_iff_mem.2 e] at h1; cases h1) (need_ok hn hd j hj)) ⟨?_, ?_⟩ hr
  · rcases hlo with rfl | ⟨x, hx, hw⟩
    · exact Nat.zero_le _
    · have := hk1 (lo - 1) x hx hw; omega
  · rcases hhi with rfl | ⟨x, o', hx, hox, hw⟩
    · exact hkl
    · exact hk2 hi x o' hx hox hw
/-- .. behind a guard that says b, as is known -/
theorem stepE_guard (need : List Nat) (hn : needs o need = true) (hc : (need.all fun j => !C.contains j) = true) (hi : C.contains i = false) {j t : Nat} {b : Bool} (hg : o.guard = some (j, b)) (hj : j ∈ need) (hL : (L[j]?).bind (·.dst) = some t) (hl : tab.length = a.tmps.size) (ht : (tab[t]?).join = some j)
    (hv : ∀ v w, V j v w → v = .bool b)
    (h : ∀ us w, B ≤ w.heap.size → G w → (∀ j, j ∈ need → V j (us j) w) → o.wp P (frame tab a us) w (fun a' w' => ∃ v, a' = (frame tab a us).put o.dst v ∧ Below w.heap.size w w' ∧ V i v w') Q) : StepE P L Q tab a B D C G V R i o := by
  intro m us w hB hG hV hd
  have hiC : i ∉ C := fun e => by rw [List.contains_iff_mem.2 e] at hi; cases hi
  have hV2 : ∀ j, j ∈ need → V j (us j) w := fun j hj => hV j (fun e => by have h1 := List.all_eq_true.1 hc j hj; rw [List.contains_iff_mem.2 e] at h1; cases h1) (need_ok hn hd j hj)
  refine ⟨fun _ _ => ?_, fun p hp => absurd (List.mem_of_getElem? hp) hiC⟩
  have hy := yield_at (L := L) (us := us) hl hL ht (hv _ _ (hV2 j hj))
  rw [if_pos (show Region.wanted o (yielded L.toArray (frame tab a us).tmps) = true by simp [Region.wanted, hg, hy])]
  exact h us w hB hG hV2
/-- .. that is not wanted -/
theorem stepE_skip (need : List Nat) (hn : needs o need = true) (hc : (need.all fun j => !C.contains j) = true) (hi : C.contains i = false) {j t : Nat} {b : Bool} (hg : o.guard = some (j, b)) (hj : j ∈ need) (hL : (L[j]?).bind (·.dst) = some t) (hl : tab.length = a.tmps.size) (ht : (tab[t]?).join = some j)
    (hv : ∀ v w, V j v w → v = .bool !b) (h : ∀ w, V i undef w) : StepE P L Q tab a B D C G V R i o := by
  intro m us w hB hG hV hd
  have hiC : i ∉ C := fun e => by rw [List.contains_iff_mem.2 e] at hi; cases hi
  have hV2 : ∀ j, j ∈ need → V j (us j) w := fun j hj => hV j (fun e => by have h1 := List.all_eq_true.1 hc j hj; rw [List.contains_iff_mem.2 e] at h1; cases h1) (need_ok hn hd j hj)
  refine ⟨fun _ _ => ?_, fun p hp => absurd (List.mem_of_getElem? hp) hiC⟩
  have hy := yield_at (L := L) (us := us) hl hL ht (hv _ _ (hV2 j hj))
  rw [if_neg (by simp [Region.wanted, hg, hy])]
  exact h w
/-- the chain's p-th -/
theorem stepE_chain (p : Nat) (hp : C[p]? = some i) (hnd : C.Nodup) (need : List Nat) (hn : needs o need = true) (hc : (need.all fun j => !C.contains j) = true) (hg : o.guard = none)
    (h : ∀ us w, B ≤ w.heap.size → G w → (∀ j, j ∈ need → V j (us j) w) → R p us w → o.wp P (frame tab a us) w (fun a' w' => ∃ v, a' = (frame tab a us).put o.dst v ∧ (D w w' ∧ Below B w w') ∧ R (p + 1) (upd us i v) w') Q) : StepE P L Q tab a B D C G V R i o := by
  intro m us w hB hG hV hd
  refine ⟨fun hi _ => absurd (List.mem_of_getElem? hp) hi, fun q hq hr => ?_⟩
  have hqp : q = p := nodup_at hnd hq hp
  subst hqp
  rw [if_pos (show Region.wanted o (yielded L.toArray (frame tab a us).tmps) = true by simp [Region.wanted, hg])]
  exact h us w hB hG (fun j hj => hV j (fun e => by have h1 := List.all_eq_true.1 hc j hj; rw [List.contains_iff_mem.2 e] at h1; cases h1) (need_ok hn hd j hj)) hr
/-- .. behind a guard that says b, as is known -/
theorem stepE_chainG (p : Nat) (hp : C[p]? = some i) (hnd : C.Nodup) (need : List Nat) (hn : needs o need = true) (hc : (need.all fun j => !C.contains j) = true) {j t : Nat} {b : Bool} (hg : o.guard = some (j, b)) (hj : j ∈ need) (hL : (L[j]?).bind (·.dst) = some t) (hl : tab.length = a.tmps.size) (ht : (tab[t]?).join = some j)
    (hv : ∀ v w, V j v w → v = .bool b)
    (h : ∀ us w, B ≤ w.heap.size → G w → (∀ j, j ∈ need → V j (us j) w) → R p us w → o.wp P (frame tab a us) w (fun a' w' => ∃ v, a' = (frame tab a us).put o.dst v ∧ (D w w' ∧ Below B w w') ∧ R (p + 1) (upd us i v) w') Q) : StepE P L Q tab a B D C G V R i o := by
  intro m us w hB hG hV hd
  have hV2 : ∀ j, j ∈ need → V j (us j) w := fun j hj => hV j (fun e => by have h1 := List.all_eq_true.1 hc j hj; rw [List.contains_iff_mem.2 e] at h1; cases h1) (need_ok hn hd j hj)
  refine ⟨fun hi _ => absurd (List.mem_of_getElem? hp) hi, fun q hq hr => ?_⟩
  have hqp : q = p := nodup_at hnd hq hp
  subst hqp
  have hy := yield_at (L := L) (us := us) hl hL ht (hv _ _ (hV2 j hj))
  rw [if_pos (show Region.wanted o (yielded L.toArray (frame tab a us).tmps) = true by simp [Region.wanted, hg, hy])]
  exact h us w hB hG hV2 hr
end
end Go.Proofs.Ytbhcpbihbecphaa.freeC

/-
  A header that tells its length is gone past.
-/
namespace Go.Proofs.Ytbhcpbihbecphaa.freeC
open Go.ChangeShapes Go.WideShapes Go.ChangeAt Go.RowKit
set_option linter.unusedVariables false
/-- a call in a region that returns, or panics -/
theorem call_two {P : Program} {Q : Exit → Act → World → Prop} {o : Oper} {a : Act} {w w' : World} {R : Value → World → Prop} {f : FuncId} {args : Array Value} (hr : (execOp a.eval o).run P w = .ok (.enter f args) w') (h : Calls P f args w' fun e w'' => (∃ v, e = .returned v ∧ R v w'') ∨ (∃ ch, e = .panicked ch ∧ Q (.panic ch) a w'')) : o.wp P a w (fun a' w'' => ∃ v, a' = a.put o.dst v ∧ R v w'') Q := by
  unfold Oper.wp; rw [hr, Oper.upon_enter]
  refine h.mono fun e w'' h => ?_
  rcases h with ⟨v, he, hr⟩ | ⟨ch, he, hq⟩
  · subst he; exact ⟨v, rfl, hr⟩
  · subst he; exact hq
end Go.Proofs.Ytbhcpbihbecphaa.freeC
namespace Go.Proofs.Ytbhcpbihbecphaa.sxC
open Go.ChangeShapes Go.WideShapes Go.ChangeAt Go.RowKit
open Go.Proofs.Ytbhcpbihbecphaa.memC Go.Proofs.Ytbhcpbihbecphaa.genC Go.Proofs.Ytbhcpbihbecphaa.adC Go.Proofs.Ytbhcpbihbecphaa.pkC Go.Proofs.Ytbhcpbihbecphaa.freeC
open Go.Proofs.Ytbhcpbihbecphaa.octC (Fr Rd RdD stopped)
set_option linter.unusedVariables false
theorem RdB.set {w : World} {g q : Nat} {x : Int} (h : RdB w g q x) (y : Int) : RdB (w.setCell ⟨g, 1, none⟩ (.int .u8 y)) g q y := by
  unfold RdB
  rw [heap_setCell_same w g 1 _ _ _ h]; rfl
theorem fr_set {S : Nat → Prop} {w0 w : World} {g k : Nat} (F : Fr S w0 w) (hg : S g) (v : Value) : Fr S w0 (w.setCell ⟨g, k, none⟩ v) :=
  ⟨F.os, F.tape, F.output, by simpa [World.setCell] using F.size, fun j hj hn => (Below.heap_setCell _ _ _ _ (by rintro rfl; exact hn hg)).trans (F.block j hj hn)⟩
theorem rdD_set {w : World} {q B g k : Nat} {bs : List Int} (h : RdD w q B bs) (v : Value) (h1 : g ≠ q) (h2 : B ≤ g) : RdD (w.setCell ⟨g, k, none⟩ v) q B bs :=
  h.keep (by simp [World.setCell]) (Below.heap_setCell _ _ _ _ (fun e => h1 e.symm)) fun j hj => Below.heap_setCell _ _ _ _ (fun (e : j = g) => by omega)
theorem RdB.frozen {w : World} {g q k : Nat} {x : Int} (h : RdB w g q x) : w.frozen? ⟨g, k, none⟩ = false := frozen_of_row w g k _ _ h
/-- behind a reading: what is left, and what comes next -/
structure RdQ (w : World) (g q B : Nat) (x : Int) (bs : List Int) (w' : World) : Prop where
  rb : RdB w' g q x
  rd : RdD w' q B bs
  fr : Fr (fun k => k = q ∨ k = g) w w'
theorem RdQ.keep {w w1 w2 : World} {g q B : Nat} {y : Int} {X : List Int} (h : RdQ w g q B y X w1) (hb : Below w1.heap.size w1 w2) : RdQ w g q B y X w2 :=
  ⟨h.rb.fr (S := fun _ => False) (Fr.below hb) (fun e => e), h.rd.below hb, h.fr.trans (Fr.below hb)⟩
/-- .. with more of them read -/
theorem RdQ.next {w w1 w2 : World} {g q B : Nat} {y : Int} {X Y : List Int} (h : RdQ w g q B y X w1) (hn : g ≠ q) (hR : RdD w2 q B Y) (F : Fr (· = q) w1 w2) : RdQ w g q B y Y w2 :=
  ⟨h.rb.fr F hn, hR, h.fr.trans (F.mono fun k _ e => .inl e)⟩
theorem fr_zero {q : Nat} {w w' : World} (F : Fr (· = q) w w') : Fr (· = q) w w' ∧ Below 0 w w' := ⟨F, F.os, F.tape, F.output, F.size, fun k hk => absurd hk (Nat.not_lt_zero _)⟩
theorem octet_two (g q B : Nat) (x : Int) (bs : List Int) (w : World) (hg : RdB w g q x) (h : RdD w q B bs) (hm : bs.length ≤ 100000) (hy : ∀ x ∈ bs, Byte x) :
    Calls Try.prog 44 #[.pointer (some ⟨g, 0, none⟩)] w fun e w' => (1 ≤ bs.length ∧ OcR w q B bs e w') ∨ (bs.length < 1 ∧ e = stopped ∧ w = w') := by
  by_cases hl : bs.length < 1
  · exact (octet_stop g q x bs w hg h.rd hl).mono fun e w' h => .inr ⟨hl, h⟩
  · exact (octet_ok g q B x bs w hg h (by omega) hm hy).mono fun e w' h => .inl ⟨by omega, h⟩
theorem bytes_two (q B : Nat) (bs : List Int) (s : Nat) (z : Int) (w : World) (h : RdD w q B bs) (hz : (s : Int) = z) (hm : bs.length ≤ 100000) :
    Calls Try.prog 47 #[.pointer (some ⟨q, 0, none⟩), .int .i64 z] w fun e w' => (s ≤ bs.length ∧ octC.ByD w q B bs s e w') ∨ (bs.length < s ∧ e = stopped ∧ w = w') := by
  by_cases hl : bs.length < s
  · exact (octC.bytes_stop q bs s z w h.rd hz hl).mono fun e w' h => .inr ⟨hl, h⟩
  · exact (octC.bytes_okD q B bs s z w h hz (by omega) hm).mono fun e w' h => .inl ⟨by omega, h⟩
/-- a header of its own length: gone past, or it is not whole -/
def SkR (w : World) (g q B : Nat) (bs : List Int) (e : Ending) (w' : World) : Prop :=
  (szN bs ≤ bs.length ∧ e = .returned (.tuple #[]) ∧ RdQ w g q B (bs.getD 0 0) (bs.drop (szN bs)) w') ∨ (bs.length < szN bs ∧ e = stopped ∧ Fr (fun k => k = q ∨ k = g) w w')
def skR (w : World) (g q B : Nat) (y z : Int) (l s : Nat) (X0 X1 X2 : List Int) : Nat → (Nat → Value) → World → Prop
  | 0, _, w' => RdQ w g q B y X0 w'
  | 1, us, w' => us 5 = .int .u8 z ∧ 2 ≤ l ∧ RdQ w g q B y X1 w'
  | 2, us, w' => us 5 = .int .u8 z ∧ s ≤ l ∧ RdQ w g q B y X2 w'
  | _, _, _ => True
theorem skR.keep (w : World) (g q B : Nat) (y z : Int) (l s : Nat) (X0 X1 X2 : List Int) (k : Nat) (us us' : Nat → Value) (w1 w2 : World) (h : ∀ x ∈ [5, 9], us' x = us x) (hb : Below w1.heap.size w1 w2) (hR : skR w g q B y z l s X0 X1 X2 k us w1) : skR w g q B y z l s X0 X1 X2 k us' w2 := by
  unfold skR at hR ⊢
  split at hR
  · exact hR.keep hb
  · exact ⟨(h 5 (by simp)).trans hR.1, hR.2.1, hR.2.2.keep hb⟩
  · exact ⟨(h 5 (by simp)).trans hR.1, hR.2.1, hR.2.2.keep hb⟩
  · trivial
def skV (g q : Nat) (z t u : Int) : Nat → Value → World → Prop
  | 0, v, _ => v = .pointer (some ⟨g, 0, none⟩)
  | 1, v, _ => v = .pointer (some ⟨g, 0, none⟩)
  | 2, v, _ => v = .pointer (some ⟨g, 0, none⟩)
  | 3, v, _ => v = .pointer (some ⟨q, 0, none⟩)
  | 4, v, _ => v = .pointer (some ⟨g, 0, none⟩)
  | 6, v, _ => v = .int .i64 z
  | 7, v, _ => v = .int .i64 t
  | 8, v, _ => v = .int .i64 u
  | _, _, _ => True
theorem skV.keep (g q : Nat) (z t u : Int) (i : Nat) (v : Value) (w w' : World) (hd : Below w.heap.size w w' ∨ Fr (· = q) w w') (h : skV g q z t u i v w) : skV g q z t u i v w' := by
  unfold skV at h ⊢
  split at h <;> exact h
def skT : List (Option Nat) := [none, none, none, none, none, none, none, some 0, some 1, some 2, some 3, some 4, some 5, some 6, some 7, some 8, some 9]
set_option maxRecDepth 100000 in
set_option maxHeartbeats 1000000 in
theorem skip_any (g q B : Nat) (x : Int) (bs : List Int) (w : World) (hg : RdB w g q x) (h : RdD w q B bs) (hm : bs.length ≤ 100000) (hy : ∀ x ∈ bs, Byte x) (hn : g ≠ q) (hB : B ≤ g) :
    Calls Try.prog 53 #[.pointer (some ⟨g, 0, none⟩)] w (SkR w g q B bs) := by
  have b1 := getD_bytes hy 1
  unfold Byte at b1
  obtain ⟨z, hz⟩ : ∃ z, z = bs.getD 1 0 := ⟨_, rfl⟩
  rw [← hz] at b1
  have S8 := Lib.hid (show 8 ≤ szN bs by unfold szN; rw [← hz]; omega)
  by_cases hl : bs.length < 1
  · have T := Lib.hid (octet_stop g q x bs w hg h.rd hl)
    have HL := Lib.hid hl
    clear hg h hm hy hn hl b1 hz
    go_enter Try.func53, Try.ntmps53
    go_wp2_with (first
      | (go_at_call 44; (refine T.out.mono ?_); rintro e w' ⟨he, rfl⟩; rw [octC.stopped_eq] at he; subst he))
    exact ⟨rfl, .inr ⟨by have := HL.out; have := S8.out; omega, rfl, Fr.refl _⟩⟩
  obtain ⟨t, ht⟩ : ∃ t, t = 8 * z := ⟨_, rfl⟩
  obtain ⟨u, hu⟩ : ∃ u, u = t + 6 := ⟨_, rfl⟩
  obtain ⟨s, hs⟩ : ∃ s : Nat, s = (8 * z + 6).toNat := ⟨_, rfl⟩
  have EU := Lib.hid (show (s : Int) = u by omega)
  have WZ := Lib.hid (show IntKind.i64.wrap z = z from IntWalk.i64_in _ (by omega))
  have WT := Lib.hid (show IntKind.i64.wrap (8 * z) = t by rw [← ht]; exact IntWalk.i64_in _ (by omega))
  have WU := Lib.hid (show IntKind.i64.wrap (t + 6) = u by rw [← hu]; exact IntWalk.i64_in _ (by omega))
  obtain ⟨y, hy0⟩ : ∃ y, y = bs.getD 0 0 := ⟨_, rfl⟩
  obtain ⟨X0, hX0⟩ : ∃ X, X = bs.drop 1 := ⟨_, rfl⟩
  obtain ⟨X1, hX1⟩ : ∃ X, X = X0.drop 1 := ⟨_, rfl⟩
  obtain ⟨X2, hX2⟩ : ∃ X, X = X1.drop s := ⟨_, rfl⟩
  have E1 := Lib.hid hX1
  have E2 := Lib.hid hX2
  have L0 := Lib.hid (show X0.length + 1 = bs.length by rw [hX0, List.length_drop]; omega)
  have LS := Lib.hid (show 2 ≤ bs.length → X1.length + 2 = bs.length ∧ s + 2 = szN bs from fun h2 => ⟨by rw [hX1, hX0, List.length_drop, List.length_drop]; omega, by unfold szN; rw [← hz]; omega⟩)
  have E3 := Lib.hid (show X2 = bs.drop (szN bs) by
    rw [hX2, hX1, hX0, List.drop_drop, List.drop_drop]
    congr 1
    unfold szN; rw [← hz]; omega)
  have EZ := Lib.hid (show X0.getD 0 0 = z by rw [hX0, hz, List.getD_eq_getElem?_getD, List.getElem?_drop, List.getD_eq_getElem?_getD])
  have Y0 := Lib.hid (show ∀ v ∈ X0, Byte v from fun v hv => hy v (by rw [hX0] at hv; exact List.mem_of_mem_drop hv))
  have M0 := Lib.hid (show X0.length ≤ 100000 by rw [hX0, List.length_drop]; omega)
  have M1 := Lib.hid (show X1.length ≤ 100000 by rw [hX1, hX0, List.length_drop, List.length_drop]; omega)
  have T := octet_ok g q B x bs w hg h (by omega) hm hy
  unfold OcR at T
  rw [← hy0, ← hX0] at T
  have T := Lib.hid T
  have NE := Lib.hid hn
  have HBg := Lib.hid hB
  have HG := Lib.hid hg
  unfold SkR
  rw [← hy0]
  clear hg h hm hy hn hl hB hX0 hX1 hX2 hy0 hz ht hu hs b1
  go_enter Try.func53, Try.ntmps53
  go_upto_region 1 with (first
    | (go_at_call 44; (refine T.out.mono ?_); rintro e w1 ⟨rfl, R, F⟩
       have R1 := Lib.hid R
       have F1 := Lib.hid F
       have G1 := Lib.hid (HG.out.fr F NE.out)
       have c1 := G1.out.nxt
       have f1 := G1.out.frozen (k := 1)
       clear R F))
  have H0 := Lib.hid (show RdQ w g q B y X0 (w1.setCell ⟨g, 1, none⟩ (.int .u8 y)) from ⟨G1.out.set y, rdD_set R1.out _ NE.out HBg.out, fr_set (F1.out.mono fun k _ e => .inl e) (.inr rfl) _⟩)
  clear T c1 f1 R1 F1 G1 HG
  generalize w1.setCell ⟨g, 1, none⟩ (.int .u8 y) = w2 at *
  refine with_act fun a0 ha0 => ?_
  have hl : skT.length = a0.tmps.size := by rw [ha0]; rfl
  have k0 : a0.tmps[0]?.getD undef = .pointer (some ⟨g, 0, none⟩) := by rw [ha0]; rfl
  refine wp_region_che (by kernel_rfl) skT (by kernel_rfl) (by kernel_rfl) hl (fun i => undef) (by rw [ha0]; rfl) (0) (Fr (· = q)) [5, 9] (by kernel_rfl) (by decide) (by decide) (fun w' => RdB w' g q y) (skV g q z t u) (skR w g q B y z bs.length (szN bs) X0 X1 X2) (Nat.zero_le _) (H0.out.rb.fr (S := fun _ => False) (Fr.below (Below.refl _ _).drew) (fun e => e)) (H0.out.keep (Below.refl _ _).drew) (fun w1 w2 hb hd h => by rcases hd with hd | hd; exact h.fr (S := fun _ => False) (Fr.below hd) (fun e => e); exact h.fr hd NE.out) (fun i v w w' _ hd h => skV.keep _ _ _ _ _ i v w w' hd h) (fun k us us' w w' h _ hb hR => skR.keep _ _ _ _ _ _ _ _ _ _ _ k us us' w w' h hb hR) ⟨?_, ?_, ?_, ?_, ?_, ?_, ?_, ?_, ?_, ?_, trivial⟩ ?_
  · refine stepE_val [] (by kernel_rfl) (by decide) (by decide) rfl fun us w' hB hG hV => ?_
    have o0 := (frame_old2 (us := us) (a := a0) (show (skT[0]?).join = none from rfl)).trans k0
    generalize frame skT a0 us = fr at *
    exact val_C (v := .pointer (some ⟨g, 0, none⟩)) (w' := w') (by go_simp) (Below.refl _ _) rfl
  · refine stepE_val [0] (by kernel_rfl) (by decide) (by decide) rfl fun us w' hB hG hV => ?_
    have e0 : us 0 = .pointer (some ⟨g, 0, none⟩) := hV 0 (by simp)
    have v0 := (frame_at2 (us := us) hl (show (skT[7]?).join = some 0 from rfl)).trans e0
    generalize frame skT a0 us = fr at *
    exact val_C (v := .pointer (some ⟨g, 0, none⟩)) (w' := w') (by go_simp) (Below.refl _ _) rfl
  · refine stepE_val [1] (by kernel_rfl) (by decide) (by decide) rfl fun us w' hB hG hV => ?_
    have e1 : us 1 = .pointer (some ⟨g, 0, none⟩) := hV 1 (by simp)
    have v1 := (frame_at2 (us := us) hl (show (skT[8]?).join = some 1 from rfl)).trans e1
    generalize frame skT a0 us = fr at *
    exact val_C (v := .pointer (some ⟨g, 0, none⟩)) (w' := w') (by go_simp) (Below.refl _ _) rfl
  · refine stepE_val [2] (by kernel_rfl) (by decide) (by decide) rfl fun us w' hB hG hV => ?_
    have e2 : us 2 = .pointer (some ⟨g, 0, none⟩) := hV 2 (by simp)
    have v2 := (frame_at2 (us := us) hl (show (skT[9]?).join = some 2 from rfl)).trans e2
    have hc := hG.ptr
    generalize frame skT a0 us = fr at *
    exact val_C (v := .pointer (some ⟨q, 0, none⟩)) (w' := w') (by go_simp) (Below.refl _ _) rfl
  · refine stepE_val [] (by kernel_rfl) (by decide) (by decide) rfl fun us w' hB hG hV => ?_
    have o0 := (frame_old2 (us := us) (a := a0) (show (skT[0]?).join = none from rfl)).trans k0
    generalize frame skT a0 us = fr at *
    exact val_C (v := .pointer (some ⟨g, 0, none⟩)) (w' := w') (by go_simp) (Below.refl _ _) rfl
  · refine stepE_chain 0 rfl (by decide) [4] (by kernel_rfl) (by decide) rfl fun us w' hB hG hV hR => ?_
    have e4 : us 4 = .pointer (some ⟨g, 0, none⟩) := hV 4 (by simp)
    have v4 := (frame_at2 (us := us) hl (show (skT[11]?).join = some 4 from rfl)).trans e4
    have hd : (frame skT a0 us).defers = [] := by show a0.defers = []; rw [ha0]
    generalize frame skT a0 us = fr at *
    have H : RdQ w g q B y X0 w' := hR
    refine call_two (f := 44) (args := #[.pointer (some ⟨g, 0, none⟩)]) (by go_simp) ((octet_two g q B y X0 w' H.rb H.rd M0.out Y0.out).mono fun e w'' h => ?_)
    rcases h with ⟨h1, h2, h3, h4⟩ | ⟨h1, h2, h3⟩
    · exact .inl ⟨_, h2, fr_zero h4, by rw [upd_same, EZ.out], by have := L0.out; omega, H.next NE.out (by rw [E1.out]; exact h3) h4⟩
    · exact .inr ⟨_, h2, hd, .inr ⟨by have := L0.out; have := S8.out; omega, rfl, h3 ▸ H.fr⟩⟩
  · refine stepE_early 1 2 (.inr ⟨_, rfl, by kernel_rfl⟩) (.inl rfl) [] (by kernel_rfl) (by decide) (by decide) rfl fun us w' k hB hG hV hk hR => ?_
    obtain ⟨k, rfl, hq⟩ : ∃ q, q = k ∧ us 5 = .int .u8 z := by
      obtain ⟨h1, h2⟩ := hk
      match k, h1, h2, hR with
      | 1, _, _, hR => exact ⟨1, rfl, hR.1⟩
      | 2, _, _, hR => exact ⟨2, rfl, hR.1⟩
    have v5 := (frame_at2 (us := us) hl (show (skT[12]?).join = some 5 from rfl)).trans hq
    have hw := WZ.out
    generalize frame skT a0 us = fr at *
    exact val_C (v := .int .i64 z) (w' := w') (by go_simp) (Below.refl _ _) rfl
  · refine stepE_val [6] (by kernel_rfl) (by decide) (by decide) rfl fun us w' hB hG hV => ?_
    have e6 : us 6 = .int .i64 z := hV 6 (by simp)
    have v6 := (frame_at2 (us := us) hl (show (skT[13]?).join = some 6 from rfl)).trans e6
    have ht := WT.out
    generalize frame skT a0 us = fr at *
    exact val_C (v := .int .i64 t) (w' := w') (by go_simp) (Below.refl _ _) rfl
  · refine stepE_val [7] (by kernel_rfl) (by decide) (by decide) rfl fun us w' hB hG hV => ?_
    have e7 : us 7 = .int .i64 t := hV 7 (by simp)
    have v7 := (frame_at2 (us := us) hl (show (skT[14]?).join = some 7 from rfl)).trans e7
    have hu := WU.out
    generalize frame skT a0 us = fr at *
    exact val_C (v := .int .i64 u) (w' := w') (by go_simp) (Below.refl _ _) rfl
  · refine stepE_chain 1 rfl (by decide) [3, 8] (by kernel_rfl) (by decide) rfl fun us w' hB hG hV hR => ?_
    have e3 : us 3 = .pointer (some ⟨q, 0, none⟩) := hV 3 (by simp)
    have v3 := (frame_at2 (us := us) hl (show (skT[10]?).join = some 3 from rfl)).trans e3
    have e8 : us 8 = .int .i64 u := hV 8 (by simp)
    have v8 := (frame_at2 (us := us) hl (show (skT[15]?).join = some 8 from rfl)).trans e8
    have hd : (frame skT a0 us).defers = [] := by show a0.defers = []; rw [ha0]
    generalize frame skT a0 us = fr at *
    obtain ⟨e5, l2, H⟩ : us 5 = .int .u8 z ∧ 2 ≤ bs.length ∧ RdQ w g q B y X1 w' := hR
    refine call_two (f := 47) (args := #[.pointer (some ⟨q, 0, none⟩), .int .i64 u]) (by go_simp) ((bytes_two q B X1 s u w' H.rd EU.out M1.out).mono fun e w'' h => ?_)
    rcases h with ⟨h1, A2, c2, h2, h3, h4, h5, h6, h7⟩ | ⟨h1, h2, h3⟩
    · exact .inl ⟨_, h2, fr_zero h7, by rw [upd_other _ _ (by decide)]; exact e5, by have := LS.out l2; omega, H.next NE.out (by rw [E2.out]; exact h6) h7⟩
    · exact .inr ⟨_, h2, hd, .inr ⟨by have := LS.out l2; omega, rfl, h3 ▸ H.fr⟩⟩
  · intro us w2 hB2 hG hV hR
    obtain ⟨h5, hs, HR⟩ : us 5 = .int .u8 z ∧ szN bs ≤ bs.length ∧ RdQ w g q B y X2 w2 := hR
    have HS := Lib.hid hs
    have HRR := Lib.hid HR
    subst ha0
    simp only [frame, skT, fill]
    clear hV hG hl k0 h5 hs HR
    go_end0
    exact .inl ⟨HS.out, rfl, by rw [← E3.out]; exact HRR.out⟩
end Go.Proofs.Ytbhcpbihbecphaa.sxC
