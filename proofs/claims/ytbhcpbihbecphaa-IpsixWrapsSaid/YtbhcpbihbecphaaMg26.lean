/-
  2 texts of a proof, joined.
-/
import Derived.Test.YtbhcpbihbecphaaMg22
import Derived.Test.YtbhcpbihbecphaaMg25
import Derived.Test.YtbhcpbihbecphaaMg12
import Derived.Test.YtbhcpbihbecphaaMg10
import Derived.Test.YtbhcpbihbecphaaMg4
import Derived.Test.YtbhcpbihbecphaaMg23
import Derived.Test.YtbhcpbihbecphaaMg13
import Derived.Test.YtbhcpbihbecphaaMg9

/-
  A header more: the program's Wrap.
-/
namespace Go.Proofs.Ytbhcpbihbecphaa.sxC
open Go.ChangeShapes Go.WideShapes Go.ChangeAt Go.RowKit
open Go.Proofs.Ytbhcpbihbecphaa.memC Go.Proofs.Ytbhcpbihbecphaa.genC Go.Proofs.Ytbhcpbihbecphaa.butC Go.Proofs.Ytbhcpbihbecphaa.freeC Go.Proofs.Ytbhcpbihbecphaa.adC Go.Proofs.Ytbhcpbihbecphaa.pkC
set_option linter.unusedVariables false
theorem step_skip {P : Program} {L : List Oper} {Q : Exit → Act → World → Prop} {o : Oper} {a : Act} {tab : List (Option Nat)} {G : World → Prop} {V : Nat → Value → World → Prop} {i : Nat} (need : List Nat) (hn : needs o need = true) {j t : Nat} {b : Bool} (hg : o.guard = some (j, b)) (hj : j ∈ need) (hL : (L[j]?).bind (·.dst) = some t) (hl : tab.length = a.tmps.size) (ht : (tab[t]?).join = some j)
    (hv : ∀ v w, V j v w → v = .bool !b) (h : ∀ w, V i undef w) : Step P L Q tab a G V i o := by
  intro m us w hG hV hd
  have hy := yield_at (L := L) (us := us) hl hL ht (hv _ _ (hV j (need_ok hn hd j hj)))
  rw [if_neg (by simp [Region.wanted, hg, hy])]
  exact h w
/-- bytes with a header more, and an error -/
def WrR (w : World) (bs : List Int) (x : Int) (ls : List Int) (e : Ending) (w' : World) : Prop :=
  ∃ A n c, e = .returned (.tuple #[.slice A n c, .int .i64 (wrE bs x ls)]) ∧ Own .u8 5 w' w.heap.size (.slice A n c) (wrX bs x ls) ∧ Below w.heap.size w w'
theorem wr_err {w w' : World} {bs : List Int} {x : Int} {ls : List Int} {c : Int} (h : wrE bs x ls = c) (h0 : c ≠ 0) (hB : Below w.heap.size w w') : WrR w bs x ls (.returned (.tuple #[.slice none 0 0, .int .i64 c])) w' := by
  have e2 : wrX bs x ls = [] := by unfold wrX; rw [if_neg (by rw [h]; exact h0)]
  exact ⟨none, 0, 0, by rw [h], by rw [e2]; exact Own.nil _ _, hB⟩
theorem wrE_0 {bs : List Int} {x : Int} {ls : List Int} (h : tellB x = false) : wrE bs x ls = 11 := by unfold wrE; rw [if_pos h]
theorem wrE_1 {bs : List Int} {x : Int} {ls : List Int} (h : tellB x = true) (h1 : ls.length % 8 ≠ 6 ∨ 2046 < ls.length) : wrE bs x ls = 1 := by unfold wrE; rw [if_neg (by rw [h]; decide), if_pos h1]
theorem wrE_2 {bs : List Int} {x : Int} {ls : List Int} (h : tellB x = true) (h1 : ls.length % 8 = 6) (h2 : ls.length ≤ 2046) (h3 : psE bs ≠ 0) : wrE bs x ls = psE bs := by unfold wrE; rw [if_neg (by rw [h]; decide), if_neg (by omega), if_pos h3]
theorem wrE_3 {bs : List Int} {x : Int} {ls : List Int} (h : tellB x = true) (h1 : ls.length % 8 = 6) (h2 : ls.length ≤ 2046) (h3 : psE bs = 0) (h4 : bs.getD 6 0 ≠ (pkOf bs).proto) : wrE bs x ls = 1 := by unfold wrE; rw [if_neg (by rw [h]; decide), if_neg (by omega), if_neg (fun q => q h3), if_pos (.inl h4)]
theorem wrE_4 {bs : List Int} {x : Int} {ls : List Int} (h : tellB x = true) (h1 : ls.length % 8 = 6) (h2 : ls.length ≤ 2046) (h3 : psE bs = 0) (h4 : bs.getD 6 0 = (pkOf bs).proto) (h5 : 2 + ls.length + (hdOf bs).rest.length ≤ 65535) : wrE bs x ls = 0 := by unfold wrE; rw [if_neg (by rw [h]; decide), if_neg (by omega), if_neg (fun q => q h3), if_neg (by rintro (q | q); exact q h4; omega)]
/-- the first forty bytes, with another length and another kind -/
theorem head_set {bs : List Int} (h : 40 ≤ bs.length) (a b x : Int) : (((bs.take 40).take 4 ++ [a, b] ++ (bs.take 40).drop 6).set 6 x) = bs.take 4 ++ ([a, b] ++ ([x] ++ (bs.drop 7).take 33)) := by
  have e4 : (bs.take 40).take 4 = bs.take 4 := by rw [List.take_take, show min 4 40 = 4 from rfl]
  have e6 : (bs.take 40).drop 6 = (bs.drop 6).take 34 := by rw [List.drop_take]
  have e7 : (bs.drop 6).take 34 = bs.getD 6 0 :: (bs.drop 7).take 33 := by
    rw [List.drop_eq_getElem_cons (by omega), List.take_succ_cons]
    congr 1
    rw [List.getD_eq_getElem?_getD, List.getElem?_eq_getElem (by omega)]; rfl
  have hl : (bs.take 4 ++ [a, b]).length = 6 := by simp; omega
  rw [e4, e6, e7, List.set_append_right _ _ (by omega), hl]
  simp
def wcR (base g c : Nat) (X0 X1 : List Int) : Nat → (Nat → Value) → World → Prop
  | 0, _, w => Own .u8 5 w base (.slice (some ⟨g, 0, none⟩) 40 c) X0
  | 1, _, w => Own .u8 5 w base (.slice (some ⟨g, 0, none⟩) 40 c) X1
  | _, _, _ => True
theorem wcR.keep (base g c : Nat) (X0 X1 : List Int) (k : Nat) (us us' : Nat → Value) (w w' : World) (hb : Below w.heap.size w w') (hR : wcR base g c X0 X1 k us w) : wcR base g c X0 X1 k us' w' := by
  unfold wcR at hR ⊢
  split at hR
  · exact hR.below hb
  · exact hR.below hb
  · trivial
def wnV (b o n c g8 : Nat) (b6 pr S : Int) : Nat → Value → World → Prop
  | 0, v, _ => v = .slice (some ⟨b, o, none⟩) n c
  | 1, v, _ => v = .pointer (some ⟨b, o + 6, none⟩)
  | 2, v, _ => v = .int .u8 b6
  | 3, v, _ => v = .pointer (some ⟨g8, 34, none⟩)
  | 4, v, _ => v = .int .u8 pr
  | 5, v, _ => v = .bool true
  | 6, v, _ => v = .bool true
  | 9, v, _ => v = .bool true
  | 10, v, _ => v = .bool true
  | _, _, _ => True
theorem wnV.keep (b o n c g8 : Nat) (b6 pr S : Int) (i : Nat) (v : Value) (w w' : World) (hb : Below w.heap.size w w') (h : wnV b o n c g8 b6 pr S i v w) : wnV b o n c g8 b6 pr S i v w' := by
  unfold wnV at h ⊢
  split at h <;> exact h
def wnT : List (Option Nat) := [none, none, none, none, none, none, none, none, none, none, none, none, none, none, none, none, none, none, none, none, none, none, none, none, none, none, none, none, none, none, none, none, none, none, none, none, none, none, none, none, none, none, some 10, some 0, some 1, some 2, some 3, some 4, some 5, some 6, some 7, some 8, some 9, none, none, none, none, none, none, none, none, none, none, none, none, none, none, none, none, none, none, none, none, none, none, none, none, none, none]
def weV (b o n c g8 : Nat) (b6 pr S : Int) : Nat → Value → World → Prop
  | 0, v, _ => v = .slice (some ⟨b, o, none⟩) n c
  | 1, v, _ => v = .pointer (some ⟨b, o + 6, none⟩)
  | 2, v, _ => v = .int .u8 b6
  | 3, v, _ => v = .pointer (some ⟨g8, 34, none⟩)
  | 4, v, _ => v = .int .u8 pr
  | 5, v, _ => v = .bool false
  | 6, v, _ => v = .bool false
  | 7, v, _ => v = .int .i64 S
  | 8, v, _ => v = .bool false
  | 9, v, _ => v = .bool false
  | 10, v, _ => v = .bool false
  | _, _, _ => True
theorem weV.keep (b o n c g8 : Nat) (b6 pr S : Int) (i : Nat) (v : Value) (w w' : World) (hb : Below w.heap.size w w') (h : weV b o n c g8 b6 pr S i v w) : weV b o n c g8 b6 pr S i v w' := by
  unfold weV at h ⊢
  split at h <;> exact h
def weT : List (Option Nat) := [none, none, none, none, none, none, none, none, none, none, none, none, none, none, none, none, none, none, none, none, none, none, none, none, none, none, none, none, none, none, none, none, none, none, none, none, none, none, none, none, none, none, some 10, some 0, some 1, some 2, some 3, some 4, some 5, some 6, some 7, some 8, some 9, none, none, none, none, none, none, none, none, none, none, none, none, none, none, none, none, none, none, none, none, none, none, none, none, none, none]
def wcV (g c4 c36 : Nat) (S : Int) : Nat → Value → World → Prop
  | 0, v, _ => v = .slice (some ⟨g, 0, none⟩) 40 c4
  | 1, v, _ => v = .slice (some ⟨g, 4, none⟩) 36 c36
  | 2, v, _ => v = .int .i64 S
  | 3, v, _ => v = .int .u64 S
  | 4, v, w => ∃ q, v = .slice (some ⟨q, 0, none⟩) 1 1 ∧ q ≠ g ∧ w.heap[q]? = some (.cells #[.int .u64 S] 50 (0, 0))
  | 5, v, w => ∃ A c, v = .slice A 2 c ∧ Own .u8 5 w (g + 1) (.slice A 2 c) [S / 256, S % 256]
  | _, _, _ => True
theorem wcV.keep (g c4 c36 : Nat) (S : Int) (i : Nat) (v : Value) (w w' : World) (hd : Below w.heap.size w w' ∨ OnlyAt g w w') (h : wcV g c4 c36 S i v w) : wcV g c4 c36 S i v w' := by
  by_cases e4 : i = 4
  · subst e4
    obtain ⟨q, h1, h2, h3⟩ := h
    exact ⟨q, h1, h2, keep_row hd h2 h3⟩
  by_cases e5 : i = 5
  · subst e5
    obtain ⟨A, c', h1, h2⟩ := h
    refine ⟨A, c', h1, h2.keep fun k g1 g2 => ?_⟩
    rcases hd with hd | hd
    · exact hd.block k g2
    · exact hd.2 k (by omega)
  unfold wcV at h ⊢
  split at h <;> first | exact h | exact absurd rfl (by assumption)
def wcT : List (Option Nat) := [none, none, none, none, none, none, none, none, none, none, none, none, none, none, none, none, none, none, none, none, none, none, none, none, none, none, none, none, none, none, none, none, none, none, none, none, none, none, none, none, none, none, none, none, none, none, none, none, none, none, none, none, none, none, none, none, some 0, some 1, some 2, some 3, some 4, some 5, some 6, none, none, none, none, none, none, none, none, none, none, none, none, none, none, none, none]
def wfV (g8 g c4 : Nat) (A : Option Addr) (n c : Nat) (A2 : Option Addr) (m c2 : Nat) (A9 : Option Addr) (n9 c9 NN B0 : Nat) (pr q8 : Int) (X : List Int) : Nat → Value → World → Prop
  | 0, v, _ => v = .slice (some ⟨g, 0, none⟩) 40 c4
  | 1, v, _ => v = .pointer (some ⟨g8, 34, none⟩)
  | 2, v, _ => v = .int .u8 pr
  | 3, v, _ => v = .slice A2 m c2
  | 4, v, _ => v = .int .i64 m
  | 5, v, _ => v = .int .i64 q8
  | 6, v, _ => v = .int .u8 q8
  | 7, v, w => ∃ q, v = .slice (some ⟨q, 0, none⟩) 2 2 ∧ w.heap[q]? = some (.cells #[.int .u8 pr, .int .u8 q8] 5 (0, 0))
  | 8, v, _ => v = .slice A2 m c2
  | 9, v, _ => v = .slice A n c
  | 10, v, _ => v = .slice A9 n9 c9
  | 11, v, w => ∃ q p, v = .slice (some ⟨q, 0, none⟩) 4 4 ∧ w.heap[q]? = some (.cells #[.slice (some ⟨g, 0, none⟩) 40 c4, .slice (some ⟨p, 0, none⟩) 2 2, .slice A2 m c2, .slice A9 n9 c9] 26 (0, 0)) ∧ w.heap[p]? = some (.cells #[.int .u8 pr, .int .u8 q8] 5 (0, 0))
  | 12, v, w => ∃ A' c', v = .slice A' NN c' ∧ Own .u8 5 w B0 (.slice A' NN c') X
  | 13, v, w => ∃ A' c', v = .slice A' NN c' ∧ Own .u8 5 w B0 (.slice A' NN c') X
  | 14, v, _ => v = .int .i64 0
  | _, _, _ => True
theorem wfV.keep (g8 g c4 : Nat) (A : Option Addr) (n c : Nat) (A2 : Option Addr) (m c2 : Nat) (A9 : Option Addr) (n9 c9 NN B0 : Nat) (pr q8 : Int) (X : List Int) (i : Nat) (v : Value) (w w' : World) (hb : Below w.heap.size w w') (h : wfV g8 g c4 A n c A2 m c2 A9 n9 c9 NN B0 pr q8 X i v w) : wfV g8 g c4 A n c A2 m c2 A9 n9 c9 NN B0 pr q8 X i v w' := by
  by_cases e7 : i = 7
  · subst e7
    obtain ⟨q, h1, h2⟩ := h
    exact ⟨q, h1, by rw [hb.block _ (lt_of_row h2)]; exact h2⟩
  by_cases e11 : i = 11
  · subst e11
    obtain ⟨q, p, h1, h2, h3⟩ := h
    exact ⟨q, p, h1, by rw [hb.block _ (lt_of_row h2)]; exact h2, by rw [hb.block _ (lt_of_row h3)]; exact h3⟩
  by_cases e12 : i = 12
  · subst e12
    obtain ⟨A', c', h1, h2⟩ := h
    exact ⟨A', c', h1, h2.below hb⟩
  by_cases e13 : i = 13
  · subst e13
    obtain ⟨A', c', h1, h2⟩ := h
    exact ⟨A', c', h1, h2.below hb⟩
  unfold wfV at h ⊢
  split at h <;> first | exact h | exact absurd rfl (by assumption)
def wfT : List (Option Nat) := [none, none, none, none, none, none, some 13, some 14, none, none, none, none, none, none, none, none, none, none, none, none, none, none, none, none, none, none, none, none, none, none, none, none, none, none, none, none, none, none, none, none, none, none, none, none, none, none, none, none, none, none, none, none, none, none, none, none, none, none, none, none, none, none, none, none, none, none, some 0, some 1, some 2, some 3, some 4, some 5, some 6, some 7, some 8, some 9, some 10, some 11, some 12]
set_option maxRecDepth 100000 in
set_option maxHeartbeats 4000000 in
theorem cwrap_any (A : Option Addr) (n c : Nat) (bs : List Int) (x : Int) (A2 : Option Addr) (m c2 : Nat) (ls : List Int) (w : World) (hb : Nums .u8 w w.heap.size A n bs) (hy : ∀ x ∈ bs, Byte x) (hx : Byte x) (hls : Nums .u8 w w.heap.size A2 m ls) (hyl : ∀ x ∈ ls, Byte x) (hn : n ≤ 3000) (hm : m ≤ 3000) (hnc : n ≤ c) (hcm : c ≤ 9223372036854775807) :
    Calls Try.prog 20 #[.slice A n c, .int .u8 x, .slice A2 m c2] w (WrR w bs x ls) := by
  have hzv := zeroPkt
  have HN := Lib.hid (fun w' (h : Below w.heap.size w w') => (hb.below h).more h.size)
  have HLS := Lib.hid (fun w' (h : Below w.heap.size w w') => (hls.below h).more h.size)
  have HY := Lib.hid hy
  have HYL := Lib.hid hyl
  have HL := Lib.hid hb.len
  have HLM := Lib.hid hls.len
  have TK := Lib.hid (fun w' => tells_any x w')
  have P0 := Lib.hid (cparse_any A n c bs w hb hy (by omega))
  have UPP := Lib.hid (fun A n c => (pkC (psP_ok hy) A n c).info)
  have SPP := Lib.hid (fun A n c => (pkC zPkt_ok none 0 0).size.trans (pkC (psP_ok hy) A n c).size.symm)
  have OPP := Lib.hid (fun A n c => pkt_one (psP bs) A n c)
  have PRR := Lib.hid (fun A n c => (pkC (psP_ok hy) A n c).proto)
  have PLL := Lib.hid (fun A n c => (pkC (psP_ok hy) A n c).load)
  have HC := Lib.hid hnc
  have HM := Lib.hid hcm
  have H3 := Lib.hid hn
  have M3 := Lib.hid hm
  have PSL := Lib.hid (psX_len bs)
  obtain ⟨tb, htb⟩ : ∃ tb, tb = tellB x := ⟨_, rfl⟩
  have ETB := Lib.hid htb.symm
  rw [← htb] at TK
  have hm3 : (m : Int) ≤ 3000 := by omega
  have tm : (m : Int).tmod 8 = ((m % 8 : Nat) : Int) := by rw [Int.tmod_eq_emod_of_nonneg (by omega)]; omega
  clear htb
  cases tb
  · have E := Lib.hid (wrE_0 (bs := bs) (ls := ls) ETB.out)
    clear hb hy hx hls hyl hn hm hnc hcm hzv
    go_enter Try.func20, Try.ntmps20
    go_wp2_with (first
      | (go_at_call 37; (refine (TK.out _).mono ?_); rintro e w' ⟨rfl, rfl⟩))
    go_ret2
    exact wr_err E.out (by decide) (Below.refl _ _)
  by_cases h6 : m % 8 = 6
  rotate_left
  · have E := Lib.hid (wrE_1 (bs := bs) ETB.out (.inl (by rw [HLM.out]; exact h6)))
    have q6 : (((m % 8 : Nat) : Int) == 6) = false := beq_eq_false_iff_ne.2 (by omega)
    obtain ⟨r, hr⟩ : ∃ r : Int, r = ((m % 8 : Nat) : Int) := ⟨_, rfl⟩
    rw [← hr] at q6 tm
    have q6b : (r != 6) = true := by rw [bne, q6]; rfl
    clear hb hy hx hls hyl hn hm hnc hcm hzv h6 hr
    go_enter Try.func20, Try.ntmps20
    go_wp2_with (first
      | (go_at_call 37; (refine (TK.out _).mono ?_); rintro e w' ⟨rfl, rfl⟩))
    go_ret2
    exact wr_err E.out (by decide) (Below.refl _ _)
  have t6 : (m : Int).tmod 8 = 6 := by rw [tm, h6]; rfl
  by_cases h46 : 2046 < m
  · have E := Lib.hid (wrE_1 (bs := bs) ETB.out (.inr (by rw [HLM.out]; exact h46)))
    have q46 : (2046 : Int) < (m : Int) := by omega
    clear hb hy hx hls hyl hn hm hnc hcm hzv h6 tm
    go_enter Try.func20, Try.ntmps20
    go_wp2_with (first
      | (go_at_call 37; (refine (TK.out _).mono ?_); rintro e w' ⟨rfl, rfl⟩))
    go_ret2
    exact wr_err E.out (by decide) (Below.refl _ _)
  have d46 : decide ((2046 : Int) < (m : Int)) = false := decide_eq_false (by omega)
  have M6 := Lib.hid (show ls.length % 8 = 6 by rw [HLM.out]; exact h6)
  have M46 := Lib.hid (show ls.length ≤ 2046 by rw [HLM.out]; omega)
  obtain ⟨k, hk⟩ : ∃ k, k = psE bs := ⟨_, rfl⟩
  have EK := Lib.hid hk
  unfold PsR at P0
  rw [← hk] at P0
  have HXB := Lib.hid hx
  have q46 := d46
  generalize hZ : pktV zPkt none 0 0 = Z at *
  clear hb hy hx hls hyl hn hm hnc hcm hk hZ h6 h46 tm
  go_enter Try.func20, Try.ntmps20
  go_upto_region 6 with (first
    | (go_at_call 37; (refine (TK.out _).mono ?_); rintro e w' ⟨rfl, rfl⟩)
    | (go_at_call 15; (refine P0.out.mono ?_); rintro e v1 ⟨A1, n1, c1, rfl, N1, B1⟩
       have HB1 := Lib.hid B1
       have L1 := Lib.hid N1.len
       have UP := Lib.hid (UPP.out A1 n1 c1)
       have SP := Lib.hid (SPP.out A1 n1 c1)
       have OP := Lib.hid (OPP.out A1 n1 c1)
       have HPR := Lib.hid (PRR.out A1 n1 c1)
       have HPL := Lib.hid (PLL.out A1 n1 c1)
       generalize pktV (psP bs) A1 n1 c1 = PK at *
       have RN := Lib.hid (show (v1.alloc (.cells Z 28)).heap[v1.heap.size]? = some (.cells Z 28 (0, 0)) from heap_alloc_new v1 _)
       clear N1 B1)
    | (refine wpList_store_row rfl 28 (.tmp 8) (.tmp 29) rfl v1.heap.size _ rfl rfl _ _ RN.out UP.out SP.out OP.out ?_))
  rw [World.setRow_alloc_new]
  have R2 := Lib.hid (show (v1.alloc (.cells PK 28)).heap[v1.heap.size]? = some (.cells PK 28 (0, 0)) from heap_alloc_new v1 _)
  have HB2 := Lib.hid (HB1.out.trans ((alloc_below v1 (.cells PK 28)).mono HB1.out.size))
  clear RN UPP SPP OPP PRR PLL P0 HB1 hzv t6 q46 d46
  obtain ⟨g8, hg8⟩ : ∃ g, g = v1.heap.size := ⟨_, rfl⟩
  rw [← hg8] at R2
  generalize v1.alloc (.cells PK 28) = v3 at *
  rw [← hg8]
  clear hg8
  have k40 : v3.cell? ⟨g8, 40, none⟩ = some (.slice A1 n1 c1) := PkC.cell R2.out HPL.out
  have ln1 : n1 ≤ 3000 := by have := L1.out; have := PSL.out; have := HL.out; have := H3.out; omega
  obtain ⟨S, hS⟩ : ∃ S : Int, S = 2 + (m : Int) + (n1 : Int) := ⟨_, rfl⟩
  obtain ⟨s2, hs2⟩ : ∃ s : Int, s = 2 + (m : Int) := ⟨_, rfl⟩
  have e2 := hs2.symm
  have es : s2 + (n1 : Int) = S := by rw [hs2, hS]
  have ws := IntWalk.i64_in S (by omega)
  have w2m := IntWalk.i64_in s2 (by omega)
  clear hs2
  have ESS := Lib.hid hS
  have LN1 := Lib.hid ln1
  have SBD := Lib.hid (show 0 ≤ S ∧ S ≤ 65535 by omega)
  clear hS
  by_cases hk0 : k = 0
  rotate_left
  · have q : (k == 0) = false := beq_eq_false_iff_ne.2 hk0
    have E := Lib.hid (show wrE bs x ls = k by rw [EK.out]; exact wrE_2 ETB.out M6.out M46.out (by rw [← EK.out]; exact hk0))
    have HK0 := Lib.hid hk0
    clear hk0 ln1
    go_wp2_with fail
    go_ret2
    exact wr_err E.out HK0.out HB2.out
  subst hk0
  have EK0 := Lib.hid EK.out.symm
  have h40 := (psE_ok EK0.out).1
  have H40 := Lib.hid h40
  have ep : (psP bs).proto = (pkOf bs).proto := by unfold psP; rw [if_pos EK0.out]
  rw [ep] at HPR
  have eX : psX bs = (hdOf bs).rest := by unfold psX; rw [if_pos EK0.out]
  rw [eX] at L1
  have hn40 : 40 ≤ n := by rw [← HL.out]; exact h40
  obtain ⟨b, o, rfl, hlt, hcell⟩ := (HN.out w (Below.refl _ _)).at_ (by omega)
  obtain ⟨pr, hpr⟩ : ∃ z, z = (pkOf bs).proto := ⟨_, rfl⟩
  have EPR := Lib.hid hpr
  rw [← hpr] at HPR
  obtain ⟨b6, hb6⟩ : ∃ z, z = bs.getD 6 0 := ⟨_, rfl⟩
  have EB6 := Lib.hid hb6
  have C6 := Lib.hid (fun w' (h : Gr v3 w') => (show w'.cell? ⟨b, o + 6, none⟩ = some (.int .u8 b6) by
    rw [hb6]
    exact ((HB2.out.trans (Below.mono h HB2.out.size)).cell (p := ⟨b, o + 6, none⟩) hlt).trans (hcell 6 (by omega))))
  have K34 := Lib.hid (fun w' (h : Gr v3 w') => PkC.cell (Gr.row h R2.out) HPR.out)
  have L6z := Lib.hid (show (6 : Int) < (n : Int) by omega)
  have LN40 := Lib.hid hn40
  clear EK ep eX h40 hpr hb6 hcell hn40
  go_upto_region 9 with fail
  clear k40 es ws w2m e2
  by_cases h66 : b6 = pr
  rotate_left
  · have Q6 := Lib.hid h66
    have E := Lib.hid (wrE_3 (x := x) ETB.out M6.out M46.out EK0.out (by rw [← EB6.out, ← EPR.out]; exact h66))
    clear h66 ln1
    refine with_act fun a0 ha0 => ?_
    have hl : wnT.length = a0.tmps.size := by rw [ha0]; rfl
    have k0 : a0.tmps[0]?.getD undef = .slice (some ⟨b, o, none⟩) n c := by rw [ha0]; rfl
    have k8 : a0.tmps[8]?.getD undef = .pointer (some ⟨g8, 0, none⟩) := by rw [ha0]; rfl
    have k10 : a0.tmps[10]?.getD undef = .int .i64 S := by rw [ha0]; rfl
    refine wp_region_vals (by kernel_rfl) wnT (by kernel_rfl) (by kernel_rfl) hl (fun i => undef) (by rw [ha0]; rfl) (Gr v3) (wnV b o n c g8 b6 pr S) (gr_drew _) (wnV.keep _ _ _ _ _ _ _ _) ⟨?_, ?_, ?_, ?_, ?_, ?_, ?_, ?_, ?_, ?_, ?_, trivial⟩ ?_
    · refine step_plain [] (by kernel_rfl) rfl fun us w' hG hV => ?_
      have o0 := (frame_old2 (us := us) (a := a0) (show (wnT[0]?).join = none from rfl)).trans k0
      generalize frame wnT a0 us = fr at *
      exact val_ok (v := .slice (some ⟨b, o, none⟩) n c) (w' := w') (by go_simp) hG (Below.refl _ _) rfl
    · refine step_plain [0] (by kernel_rfl) rfl fun us w' hG hV => ?_
      have e0 : us 0 = .slice (some ⟨b, o, none⟩) n c := hV 0 (by simp)
      have v0 := (frame_at2 (us := us) hl (show (wnT[43]?).join = some 0 from rfl)).trans e0
      have lz := L6z.out
      generalize frame wnT a0 us = fr at *
      exact val_ok (v := .pointer (some ⟨b, o + 6, none⟩)) (w' := w') (by go_simp) hG (Below.refl _ _) rfl
    · refine step_plain [1] (by kernel_rfl) rfl fun us w' hG hV => ?_
      have e1 : us 1 = .pointer (some ⟨b, o + 6, none⟩) := hV 1 (by simp)
      have v1 := (frame_at2 (us := us) hl (show (wnT[44]?).join = some 1 from rfl)).trans e1
      have hc := C6.out w' hG
      generalize frame wnT a0 us = fr at *
      exact val_ok (v := .int .u8 b6) (w' := w') (by go_simp) hG (Below.refl _ _) rfl
    · refine step_plain [] (by kernel_rfl) rfl fun us w' hG hV => ?_
      have o8 := (frame_old2 (us := us) (a := a0) (show (wnT[8]?).join = none from rfl)).trans k8
      generalize frame wnT a0 us = fr at *
      exact val_ok (v := .pointer (some ⟨g8, 34, none⟩)) (w' := w') (by go_simp) hG (Below.refl _ _) rfl
    · refine step_plain [3] (by kernel_rfl) rfl fun us w' hG hV => ?_
      have e3 : us 3 = .pointer (some ⟨g8, 34, none⟩) := hV 3 (by simp)
      have v3 := (frame_at2 (us := us) hl (show (wnT[46]?).join = some 3 from rfl)).trans e3
      have hc := K34.out w' hG
      generalize frame wnT a0 us = fr at *
      exact val_ok (v := .int .u8 pr) (w' := w') (by go_simp) hG (Below.refl _ _) rfl
    · refine step_plain [2, 4] (by kernel_rfl) rfl fun us w' hG hV => ?_
      have e2 : us 2 = .int .u8 b6 := hV 2 (by simp)
      have v2 := (frame_at2 (us := us) hl (show (wnT[45]?).join = some 2 from rfl)).trans e2
      have e4 : us 4 = .int .u8 pr := hV 4 (by simp)
      have v4 := (frame_at2 (us := us) hl (show (wnT[47]?).join = some 4 from rfl)).trans e4
      have hq : ¬ b6 = pr := Q6.out
      generalize frame wnT a0 us = fr at *
      exact val_ok (v := .bool true) (w' := w') (by go_simp) hG (Below.refl _ _) rfl
    · refine step_plain [5] (by kernel_rfl) rfl fun us w' hG hV => ?_
      have e5 : us 5 = .bool true := hV 5 (by simp)
      have v5 := (frame_at2 (us := us) hl (show (wnT[48]?).join = some 5 from rfl)).trans e5
      generalize frame wnT a0 us = fr at *
      exact val_ok (v := .bool true) (w' := w') (by go_simp) hG (Below.refl _ _) rfl
    · exact step_skip [6] (by kernel_rfl) (j := 6) (t := 49) (b := false) rfl (by simp) rfl hl rfl (fun v w h => h) fun _ => trivial
    · exact step_skip [6] (by kernel_rfl) (j := 6) (t := 49) (b := false) rfl (by simp) rfl hl rfl (fun v w h => h) fun _ => trivial
    · refine step_plain [6] (by kernel_rfl) rfl fun us w' hG hV => ?_
      have e6 : us 6 = .bool true := hV 6 (by simp)
      have v6 := (frame_at2 (us := us) hl (show (wnT[49]?).join = some 6 from rfl)).trans e6
      generalize frame wnT a0 us = fr at *
      exact val_ok (v := .bool true) (w' := w') (by go_simp) hG (Below.refl _ _) rfl
    · refine step_plain [9] (by kernel_rfl) rfl fun us w' hG hV => ?_
      have e9 : us 9 = .bool true := hV 9 (by simp)
      have v9 := (frame_at2 (us := us) hl (show (wnT[52]?).join = some 9 from rfl)).trans e9
      generalize frame wnT a0 us = fr at *
      exact val_ok (v := .bool true) (w' := w') (by go_simp) hG (Below.refl _ _) rfl
    · intro us v4 hG hV
      have e10 : us 10 = .bool true := hV 10 (by decide)
      subst ha0
      simp only [frame, wnT, fill]
      rw [e10]
      have HG4 := Lib.hid hG
      clear hV hl hG k0 k8 k10 e10
      generalize us 0 = z0 at *
      generalize us 1 = z1 at *
      generalize us 2 = z2 at *
      generalize us 3 = z3 at *
      generalize us 4 = z4 at *
      generalize us 5 = z5 at *
      generalize us 6 = z6 at *
      generalize us 7 = z7 at *
      generalize us 8 = z8 at *
      generalize us 9 = z9 at *
      clear us
      go_wp2_with fail
      go_ret2
      exact wr_err E.out (by decide) (HB2.out.trans (Below.mono HG4.out HB2.out.size))
  subst h66
  have Q6 := Lib.hid (show (b6 == b6) = true from beq_self_eq_true _)
  have QS := Lib.hid (show decide ((65535 : Int) < S) = false from decide_eq_false (by have := SBD.out; omega))
  have S2 := Lib.hid (show 2 + ls.length + (hdOf bs).rest.length ≤ 65535 by rw [HLM.out]; have := L1.out; have := M3.out; omega)
  have E0 := Lib.hid (wrE_4 (x := x) ETB.out M6.out M46.out EK0.out (by rw [← EB6.out, ← EPR.out]) S2.out)
  have LS := SBD
  have ESR := Lib.hid (show S = 2 + (ls.length : Int) + ((hdOf bs).rest.length : Int) by rw [HLM.out, ESS.out]; have := L1.out; omega)
  clear ln1
  refine with_act fun a0 ha0 => ?_
  have hl : weT.length = a0.tmps.size := by rw [ha0]; rfl
  have k0 : a0.tmps[0]?.getD undef = .slice (some ⟨b, o, none⟩) n c := by rw [ha0]; rfl
  have k8 : a0.tmps[8]?.getD undef = .pointer (some ⟨g8, 0, none⟩) := by rw [ha0]; rfl
  have k10 : a0.tmps[10]?.getD undef = .int .i64 S := by rw [ha0]; rfl
  refine wp_region_vals (by kernel_rfl) weT (by kernel_rfl) (by kernel_rfl) hl (fun i => undef) (by rw [ha0]; rfl) (Gr v3) (weV b o n c g8 b6 b6 S) (gr_drew _) (weV.keep _ _ _ _ _ _ _ _) ⟨?_, ?_, ?_, ?_, ?_, ?_, ?_, ?_, ?_, ?_, ?_, trivial⟩ ?_
  · refine step_plain [] (by kernel_rfl) rfl fun us w' hG hV => ?_
    have o0 := (frame_old2 (us := us) (a := a0) (show (weT[0]?).join = none from rfl)).trans k0
    generalize frame weT a0 us = fr at *
    exact val_ok (v := .slice (some ⟨b, o, none⟩) n c) (w' := w') (by go_simp) hG (Below.refl _ _) rfl
  · refine step_plain [0] (by kernel_rfl) rfl fun us w' hG hV => ?_
    have e0 : us 0 = .slice (some ⟨b, o, none⟩) n c := hV 0 (by simp)
    have v0 := (frame_at2 (us := us) hl (show (weT[43]?).join = some 0 from rfl)).trans e0
    have lz := L6z.out
    generalize frame weT a0 us = fr at *
    exact val_ok (v := .pointer (some ⟨b, o + 6, none⟩)) (w' := w') (by go_simp) hG (Below.refl _ _) rfl
  · refine step_plain [1] (by kernel_rfl) rfl fun us w' hG hV => ?_
    have e1 : us 1 = .pointer (some ⟨b, o + 6, none⟩) := hV 1 (by simp)
    have v1 := (frame_at2 (us := us) hl (show (weT[44]?).join = some 1 from rfl)).trans e1
    have hc := C6.out w' hG
    generalize frame weT a0 us = fr at *
    exact val_ok (v := .int .u8 b6) (w' := w') (by go_simp) hG (Below.refl _ _) rfl
  · refine step_plain [] (by kernel_rfl) rfl fun us w' hG hV => ?_
    have o8 := (frame_old2 (us := us) (a := a0) (show (weT[8]?).join = none from rfl)).trans k8
    generalize frame weT a0 us = fr at *
    exact val_ok (v := .pointer (some ⟨g8, 34, none⟩)) (w' := w') (by go_simp) hG (Below.refl _ _) rfl
  · refine step_plain [3] (by kernel_rfl) rfl fun us w' hG hV => ?_
    have e3 : us 3 = .pointer (some ⟨g8, 34, none⟩) := hV 3 (by simp)
    have v3 := (frame_at2 (us := us) hl (show (weT[46]?).join = some 3 from rfl)).trans e3
    have hc := K34.out w' hG
    generalize frame weT a0 us = fr at *
    exact val_ok (v := .int .u8 b6) (w' := w') (by go_simp) hG (Below.refl _ _) rfl
  · refine step_plain [2, 4] (by kernel_rfl) rfl fun us w' hG hV => ?_
    have e2 : us 2 = .int .u8 b6 := hV 2 (by simp)
    have v2 := (frame_at2 (us := us) hl (show (weT[45]?).join = some 2 from rfl)).trans e2
    have e4 : us 4 = .int .u8 b6 := hV 4 (by simp)
    have v4 := (frame_at2 (us := us) hl (show (weT[47]?).join = some 4 from rfl)).trans e4
    have hq := Q6.out
    generalize frame weT a0 us = fr at *
    exact val_ok (v := .bool false) (w' := w') (by go_simp) hG (Below.refl _ _) rfl
  · refine step_plain [5] (by kernel_rfl) rfl fun us w' hG hV => ?_
    have e5 : us 5 = .bool false := hV 5 (by simp)
    have v5 := (frame_at2 (us := us) hl (show (weT[48]?).join = some 5 from rfl)).trans e5
    generalize frame weT a0 us = fr at *
    exact val_ok (v := .bool false) (w' := w') (by go_simp) hG (Below.refl _ _) rfl
  · refine step_guard [6] (by kernel_rfl) (j := 6) (t := 49) (b := false) rfl (by simp) rfl hl rfl (fun v w h => h) fun us w' hG hV => ?_
    have o10 := (frame_old2 (us := us) (a := a0) (show (weT[10]?).join = none from rfl)).trans k10
    generalize frame weT a0 us = fr at *
    exact val_ok (v := .int .i64 S) (w' := w') (by go_simp) hG (Below.refl _ _) rfl
  · refine step_guard [6, 7] (by kernel_rfl) (j := 6) (t := 49) (b := false) rfl (by simp) rfl hl rfl (fun v w h => h) fun us w' hG hV => ?_
    have e7 : us 7 = .int .i64 S := hV 7 (by simp)
    have v7 := (frame_at2 (us := us) hl (show (weT[50]?).join = some 7 from rfl)).trans e7
    have hs := QS.out
    generalize frame weT a0 us = fr at *
    exact val_ok (v := .bool false) (w' := w') (by go_simp) hG (Below.refl _ _) rfl
  · refine step_plain [6, 8] (by kernel_rfl) rfl fun us w' hG hV => ?_
    have e6 : us 6 = .bool false := hV 6 (by simp)
    have v6 := (frame_at2 (us := us) hl (show (weT[49]?).join = some 6 from rfl)).trans e6
    have e8 : us 8 = .bool false := hV 8 (by simp)
    have v8 := (frame_at2 (us := us) hl (show (weT[51]?).join = some 8 from rfl)).trans e8
    generalize frame weT a0 us = fr at *
    exact val_ok (v := .bool false) (w' := w') (by go_simp) hG (Below.refl _ _) rfl
  · refine step_plain [9] (by kernel_rfl) rfl fun us w' hG hV => ?_
    have e9 : us 9 = .bool false := hV 9 (by simp)
    have v9 := (frame_at2 (us := us) hl (show (weT[52]?).join = some 9 from rfl)).trans e9
    generalize frame weT a0 us = fr at *
    exact val_ok (v := .bool false) (w' := w') (by go_simp) hG (Below.refl _ _) rfl
  · intro us v4 hG hV
    have e10 : us 10 = .bool false := hV 10 (by decide)
    subst ha0
    simp only [frame, weT, fill]
    rw [e10]
    have HG4 := Lib.hid hG
    clear hV hl hG k0 k8 k10 e10
    generalize us 0 = z0 at *
    generalize us 1 = z1 at *
    generalize us 2 = z2 at *
    generalize us 3 = z3 at *
    generalize us 4 = z4 at *
    generalize us 5 = z5 at *
    generalize us 6 = z6 at *
    generalize us 7 = z7 at *
    generalize us 8 = z8 at *
    generalize us 9 = z9 at *
    clear us
    have HB4 := Lib.hid (HB2.out.trans (Below.mono HG4.out HB2.out.size))
    have R4 := Lib.hid (Gr.row HG4.out R2.out)
    have sc40 : ∀ w', (Instr.slice 26 (.slice (some ⟨b, o, none⟩) n c) none (some (.int .i64 40)) none).run Try.prog w' = .ok (.slice (some ⟨b, o, none⟩) 40 c) w' := fun w' => by
      have h1 : (40 : Int) ≤ (c : Int) := by have := LN40.out; have := HC.out; omega
      go_simp
    have CL := Lib.hid (octC.clone_any (some ⟨b, o, none⟩) 40 c (bs.take 40) v4 ((HN.out v4 HB4.out).upto LN40.out) (by decide))
    clear K34 C6 L6z Q6 QS HG4 HB2 R2
    go_upto_region 12 with (first
      | (go_at_call 36; (refine CL.out.mono ?_); rintro e v4' ⟨AC, c4, he, O, g1, g2, N, Bc⟩
         rw [show (bs.take 40).length = 40 by rw [List.length_take]; have := H40.out; omega] at he O
         subst he
         have O4 := Lib.hid O
         have HB5 := Lib.hid (HB4.out.trans (Bc.mono HB4.out.size))
         have R5 := Lib.hid (show v4'.heap[g8]? = some (.cells PK 28 (0, 0)) by rw [Bc.block _ (lt_of_row R4.out)]; exact R4.out)
         have LC4 := Lib.hid (lt_of_row R4.out)
         clear O g1 g2 N Bc))
    obtain ⟨g, rfl, hg0, hg1, hcell, hfz⟩ := O4.out.row (by decide)
    have LC := Lib.hid (own_cap O4.out)
    have N8 := Lib.hid (show g8 < g by have := LC4.out; omega)
    have SC := Lib.hid (fun w' => (show (Instr.slice 26 (.slice (some ⟨g, 0, none⟩) 40 c4) (some (.int .i64 4)) none none).run Try.prog w' = .ok (.slice (some ⟨g, 4, none⟩) 36 (c4 - 4)) w' by
      have h1 := LC.out.1
      exact cut_tz (some ⟨g, 0, none⟩) 40 c4 4 36 (c4 - 4) 4 rfl (by decide) h1 rfl rfl (some ⟨g, 4, none⟩) (by rw [if_neg (by omega)]; simp [memC.add_plain]) w'))
    obtain ⟨c36, hc36⟩ : ∃ k, k = c4 - 4 := ⟨_, rfl⟩
    rw [← hc36] at SC
    have WK := Lib.hid (show IntKind.u64.wrap S = S from IntWalk.u64_in _ (by have := LS.out; omega))
    have NL := Lib.hid (show octC.putL [] 2 [S] = [S / 256, S % 256] by rw [put2 LS.out.1 LS.out.2]; rfl)
    obtain ⟨base, hbase⟩ : ∃ B, B = v4.heap.size := ⟨_, rfl⟩
    have HO := O4.out
    rw [← hbase] at HO
    have HO := Lib.hid HO
    have BG := Lib.hid (show base ≤ g by rw [hbase]; exact hg0)
    have L8B := Lib.hid (show g8 < base by rw [hbase]; exact LC4.out)
    have LG := Lib.hid (show g + 1 ≤ v4'.heap.size from hg1)
    have LWB := Lib.hid (show w.heap.size ≤ base by rw [hbase]; exact HB4.out.size)
    obtain ⟨X0, hX0⟩ : ∃ X, X = bs.take 40 := ⟨_, rfl⟩
    rw [← hX0] at HO
    obtain ⟨X1, hX1⟩ : ∃ X, X = X0.take 4 ++ [S / 256, S % 256] ++ X0.drop (4 + 2) := ⟨_, rfl⟩
    have EX := Lib.hid hX1.symm
    have EX0 := Lib.hid hX0
    obtain ⟨v4q, hv4q⟩ : ∃ v, v = v4' := ⟨_, rfl⟩
    clear O4 hX0 hX1 hcell hfz hg0 hg1 hc36 hbase CL sc40 LC4 hv4q
    refine with_act fun a0 ha0 => ?_
    have hl : wcT.length = a0.tmps.size := by rw [ha0]; rfl
    have k10 : a0.tmps[10]?.getD undef = .int .i64 S := by rw [ha0]; rfl
    have k11 : a0.tmps[11]?.getD undef = .slice (some ⟨g, 0, none⟩) 40 c4 := by rw [ha0]; rfl
    refine wp_region_chd (by kernel_rfl) wcT (by kernel_rfl) (by kernel_rfl) hl (fun i => undef) (by rw [ha0]; rfl) (g) (OnlyAt g) [6] (by kernel_rfl) (by decide) (by decide) (fun w' => Below base v4' w' ∧ g + 1 ≤ w'.heap.size) (wcV g c4 c36 S) (wcR base g c4 X0 X1) (Nat.le_of_lt LG.out) ⟨(Below.refl _ _).drew, LG.out⟩ (HO.out.keep fun _ _ _ => rfl) (fun w1 w2 hb hd h => ⟨keep_below hd BG.out (Nat.le_trans BG.out (Nat.le_of_lt h.2)) h.1, by rcases hd with hd | hd; exact Nat.le_trans h.2 hd.size; exact Nat.le_trans h.2 hd.1.size⟩) (fun i v w w' _ hd h => wcV.keep _ _ _ _ i v w w' hd h) (fun k us us' w w' _ _ hb hR => wcR.keep _ _ _ _ _ k us us' w w' hb hR) ⟨?_, ?_, ?_, ?_, ?_, ?_, ?_, trivial⟩ ?_
    · refine stepD_val [] (by kernel_rfl) (by decide) (by decide) rfl fun us w' hB hG hV => ?_
      have o11 := (frame_old2 (us := us) (a := a0) (show (wcT[11]?).join = none from rfl)).trans k11
      generalize frame wcT a0 us = fr at *
      exact val_C (v := .slice (some ⟨g, 0, none⟩) 40 c4) (w' := w') (by go_simp) (Below.refl _ _) rfl
    · refine stepD_val [0] (by kernel_rfl) (by decide) (by decide) rfl fun us w' hB hG hV => ?_
      have e0 : us 0 = .slice (some ⟨g, 0, none⟩) 40 c4 := hV 0 (by simp)
      have v0 := (frame_at2 (us := us) hl (show (wcT[56]?).join = some 0 from rfl)).trans e0
      have hsc := SC.out w'
      generalize frame wcT a0 us = fr at *
      exact val_C (v := .slice (some ⟨g, 4, none⟩) 36 c36) (w' := w') (by go_simp) (Below.refl _ _) rfl
    · refine stepD_val [] (by kernel_rfl) (by decide) (by decide) rfl fun us w' hB hG hV => ?_
      have o10 := (frame_old2 (us := us) (a := a0) (show (wcT[10]?).join = none from rfl)).trans k10
      generalize frame wcT a0 us = fr at *
      exact val_C (v := .int .i64 S) (w' := w') (by go_simp) (Below.refl _ _) rfl
    · refine stepD_val [2] (by kernel_rfl) (by decide) (by decide) rfl fun us w' hB hG hV => ?_
      have e2 : us 2 = .int .i64 S := hV 2 (by simp)
      have v2 := (frame_at2 (us := us) hl (show (wcT[58]?).join = some 2 from rfl)).trans e2
      have hw := WK.out
      generalize frame wcT a0 us = fr at *
      exact val_C (v := .int .u64 S) (w' := w') (by go_simp) (Below.refl _ _) rfl
    · refine stepD_val [3] (by kernel_rfl) (by decide) (by decide) rfl fun us w' hB hG hV => ?_
      have e3 : us 3 = .int .u64 S := hV 3 (by simp)
      have v3 := (frame_at2 (us := us) hl (show (wcT[59]?).join = some 3 from rfl)).trans e3
      generalize frame wcT a0 us = fr at *
      exact val_C (v := .slice (some ⟨w'.heap.size, 0, none⟩) 1 1) (w' := w'.alloc (.cells #[.int .u64 S] 50)) (by go_simp) (alloc_below _ _) ⟨_, rfl, (Nat.ne_of_gt hG.2), heap_alloc_new _ _⟩
    · refine stepD_val [4] (by kernel_rfl) (by decide) (by decide) rfl fun us w' hB hG hV => ?_
      obtain ⟨q4, e4, n4, r4⟩ := (show ∃ q, us 4 = .slice (some ⟨q, 0, none⟩) 1 1 ∧ q ≠ g ∧ w'.heap[q]? = some (.cells #[.int .u64 S] 50 (0, 0)) from hV 4 (by simp))
      have v4 := (frame_at2 (us := us) hl (show (wcT[60]?).join = some 4 from rfl)).trans e4
      generalize frame wcT a0 us = fr at *
      exact call_C (f := 23) (args := #[.slice none 0 0, .int .i64 2, .slice (some ⟨q4, 0, none⟩) 1 1]) (by go_simp) ((kdC.put_key (bs := []) (ns := [S]) 2 2 2 [S / 256, S % 256] rfl (by decide) ⟨Nums.none_ 0, (by simp), (by decide), (by decide)⟩ (row_nums .u64 r4 rfl 1 rfl) (by decide) (by decide) NL.out rfl).mono fun e w'' ⟨A', c', h1, h2, h3, h4⟩ => ⟨_, h1, h4, A', c', rfl, h2.less hG.2⟩)
    · refine stepD_chain 0 rfl (by decide) [1, 5] (by kernel_rfl) (by decide) rfl fun us w' hB hG hV hR => ?_
      have e1 : us 1 = .slice (some ⟨g, 4, none⟩) 36 c36 := hV 1 (by simp)
      have v1 := (frame_at2 (us := us) hl (show (wcT[57]?).join = some 1 from rfl)).trans e1
      obtain ⟨A5, d5, e5, P5⟩ := (show ∃ A c, us 5 = .slice A 2 c ∧ Own .u8 5 w' (g + 1) (.slice A 2 c) [S / 256, S % 256] from hV 5 (by simp))
      have v5 := (frame_at2 (us := us) hl (show (wcT[61]?).join = some 5 from rfl)).trans e5
      generalize frame wcT a0 us = fr at *
      obtain ⟨cur, hc1, hc2, hc3⟩ := (show Own .u8 5 w' base (.slice (some ⟨g, 0, none⟩) 40 c4) X0 from hR).copied (by decide) 4 2 [S / 256, S % 256] rfl (by decide)
      have NP := P5.nums
      obtain ⟨b5, o5, ea5, hb5, hc5⟩ := NP.at_ (by decide)
      subst ea5
      have hcr := run_copy_row (P := Try.prog) w' 26 26 3 5 g 4 36 c36 ⟨b5, o5, none⟩ 2 d5 cur 5 ([S / 256, S % 256].map (Value.int .u8)) Try.underlying26 (by kernel_rfl) hc1 (by show 2 = min 2 36; rfl) (NP.news rfl) (by show 4 + 2 ≤ cur.size; omega) (by simp [Value.oneCell'])
      exact copy_J (R := fun v w'' => (OnlyAt g w' w'' ∧ Below g w' w'') ∧ wcR base g c4 X0 X1 1 (upd us 6 v) w'') 57 61 26 26 rfl _ _ v1 v5 hcr ⟨⟨OnlyAt.setRow _ _ _, (OnlyAt.setRow _ _ _).1⟩, by rw [← EX.out]; exact hc3⟩
    · intro us v5 hB2 hG hV hR
      have HR := Lib.hid (show Own .u8 5 v5 base (.slice (some ⟨g, 0, none⟩) 40 c4) X1 from hR)
      have HG5 := Lib.hid hG.1
      subst ha0
      simp only [frame, wcT, fill]
      clear hV hR hG hl k10 k11 hB2
      generalize us 0 = y0 at *
      generalize us 1 = y1 at *
      generalize us 2 = y2 at *
      generalize us 3 = y3 at *
      generalize us 4 = y4 at *
      generalize us 5 = y5 at *
      generalize us 6 = y6 at *
      clear us
      have HB6 := Lib.hid (show Below w.heap.size w v5 from HB5.out.trans (HG5.out.mono LWB.out))
      obtain ⟨g', eg, hg0, hg1, hcell, hfz⟩ := HR.out.row (by decide)
      obtain rfl : g = g' := by simpa using eg
      have c6 := hcell 6 (by decide)
      have f6 := hfz 6
      have O5 := Lib.hid (HR.out.stored 6 x)
      have BW6 := Lib.hid (show Below w.heap.size w (v5.setCell ⟨g, 6, none⟩ (.int .u8 x)) from HB6.out.trans ((Below.refl _ _).setCell (p := ⟨g, 6, none⟩) (show w.heap.size ≤ g by have := LWB.out; have := BG.out; omega) _))
      have R6 := Lib.hid (show (v5.setCell ⟨g, 6, none⟩ (.int .u8 x)).heap[g8]? = some (.cells PK 28 (0, 0)) from (Below.heap_setCell _ _ _ _ (show g8 ≠ g by have := N8.out; omega)).trans (by rw [HG5.out.block _ L8B.out]; exact R5.out))
      have lz6 : (6 : Int) < (40 : Int) := by decide
      clear hcell hfz hg0 hg1 eg HR HG5 HB5 R5
      go_upto_region 14 with fail
      clear c6 f6 lz6 HB6
      generalize v5.setCell ⟨g, 6, none⟩ (.int .u8 x) = v6 at *
      obtain ⟨H, hH⟩ : ∃ H, H = X1.set 6 x := ⟨_, rfl⟩
      rw [← hH] at O5
      have EH := Lib.hid (show H = bs.take 4 ++ ([S / 256, S % 256] ++ ([x] ++ (bs.drop 7).take 33)) by
        rw [hH, ← EX.out, EX0.out]
        exact head_set H40.out _ _ _)
      have NH6 := Lib.hid O5.out.nums
      have YHH := Lib.hid (show ∀ y ∈ H, Byte y by
        intro y hy
        rw [EH.out] at hy
        have ls := LS.out
        have hxb := HXB.out
        simp only [List.mem_append, List.mem_cons, List.not_mem_nil, or_false] at hy
        rcases hy with h | (rfl | rfl) | rfl | h
        · exact HY.out y (List.mem_of_mem_take h)
        · unfold Byte; omega
        · unfold Byte; omega
        · exact hxb
        · exact HY.out y (List.mem_of_mem_drop (List.mem_of_mem_take h)))
      obtain ⟨q8, hq8⟩ : ∃ z : Int, z = ((m / 8 : Nat) : Int) := ⟨_, rfl⟩
      have lm := M46.out
      rw [HLM.out] at lm
      have WQ := Lib.hid (show (m : Int).tdiv 8 = q8 by rw [Int.tdiv_eq_ediv_of_nonneg (by omega), hq8]; omega)
      have WQ2 := Lib.hid (show IntKind.i64.wrap q8 = q8 from IntWalk.i64_in _ (by omega))
      have WQ3 := Lib.hid (show IntKind.u8.wrap q8 = q8 from IntWalk.u8_in _ (by omega))
      have YPR := (pkOf_ok HY.out H40.out).proto
      rw [← EPR.out] at YPR
      have Y2 := Lib.hid (show ∀ y ∈ [b6, q8], Byte y by
        intro y hy
        simp only [List.mem_cons, List.not_mem_nil, or_false] at hy
        rcases hy with rfl | rfl
        · exact YPR
        · unfold Byte; omega)
      obtain ⟨A9, hA9⟩ : ∃ A9, A9 = (if c = 40 then some (⟨b, o, none⟩ : Addr) else (some (⟨b, o, none⟩ : Addr)).map (·.add 40)) := ⟨_, rfl⟩
      obtain ⟨n9, hn9⟩ : ∃ k, k = n - 40 := ⟨_, rfl⟩
      have SC9 := Lib.hid (cut_tz (some ⟨b, o, none⟩) n c 40 n9 (c - 40) 40 rfl LN40.out HC.out hn9.symm rfl A9 hA9)
      obtain ⟨c9, hc9⟩ : ∃ k, k = c - 40 := ⟨_, rfl⟩
      rw [← hc9] at SC9
      obtain ⟨T9, hT9⟩ : ∃ T, T = bs.drop 40 := ⟨_, rfl⟩
      have GW := Lib.hid (fun w' (h : Gr v6 w') => (show Below w.heap.size w w' from BW6.out.trans (Below.mono h BW6.out.size)))
      have K34 := Lib.hid (fun w' (h : Gr v6 w') => PkC.cell (Gr.row h R6.out) HPR.out)
      have PH := Lib.hid (fun w' (h : Gr v6 w') => (show chkC.PartAt w' w'.heap.size ⟨some ⟨g, 0, none⟩, 40, c4, H⟩ from ⟨(NH6.out.below h).more (Below.size h), (show 40 ≤ 10000 by decide), YHH.out⟩))
      have PX := Lib.hid (fun w' (h : Gr v6 w') => (show chkC.PartAt w' w'.heap.size ⟨A2, m, c2, ls⟩ from ⟨HLS.out w' (GW.out w' h), (show m ≤ 10000 by have := M3.out; omega), HYL.out⟩))
      have PB := Lib.hid (fun w' (h : Gr v6 w') => (show chkC.PartAt w' w'.heap.size ⟨A9, n9, c9, T9⟩ from ⟨by rw [hA9, hn9, hT9]; exact (HN.out w' (GW.out w' h)).cut LN40.out HC.out, (show n9 ≤ 10000 by have := H3.out; omega), fun y hy => HY.out y (by rw [hT9] at hy; exact List.mem_of_mem_drop hy)⟩))
      obtain ⟨NN, hNN⟩ : ∃ k, k = 42 + m + n9 := ⟨_, rfl⟩
      have NP := Lib.hid (show 0 < NN ∧ NN ≤ 10000 by have := H3.out; have := M3.out; omega)
      have ENN := Lib.hid hNN
      obtain ⟨X, hX⟩ : ∃ X, X = H ++ ([b6, q8] ++ (ls ++ T9)) := ⟨_, rfl⟩
      have EXX := Lib.hid hX.symm
      have EWX := Lib.hid (show wrX bs x ls = X by
        unfold wrX
        rw [if_pos E0.out]
        unfold wrL
        rw [← ESR.out, hX, EH.out, ← EPR.out, HLM.out, hT9, hq8]
        simp only [List.append_assoc]; rfl)
      have LB0 := Lib.hid (show w.heap.size ≤ v6.heap.size from BW6.out.size)
      clear hH hq8 lm YPR hA9 hn9 hc9 hT9 hNN hX
      refine with_act fun a0 ha0 => ?_
      have hl : wfT.length = a0.tmps.size := by rw [ha0]; rfl
      have k0 : a0.tmps[0]?.getD undef = .slice (some ⟨b, o, none⟩) n c := by rw [ha0]; rfl
      have k2 : a0.tmps[2]?.getD undef = .slice A2 m c2 := by rw [ha0]; rfl
      have k8 : a0.tmps[8]?.getD undef = .pointer (some ⟨g8, 0, none⟩) := by rw [ha0]; rfl
      have k11 : a0.tmps[11]?.getD undef = .slice (some ⟨g, 0, none⟩) 40 c4 := by rw [ha0]; rfl
      refine wp_region_vals (by kernel_rfl) wfT (by kernel_rfl) (by kernel_rfl) hl (fun i => if i = 13 then .slice none 0 0 else if i = 14 then .int .i64 0 else undef) (by rw [ha0]; rfl) (Gr v6) (wfV g8 g c4 (some ⟨b, o, none⟩) n c A2 m c2 A9 n9 c9 NN w.heap.size b6 q8 X) (gr_drew _) (wfV.keep _ _ _ _ _ _ _ _ _ _ _ _ _ _ _ _ _) ⟨?_, ?_, ?_, ?_, ?_, ?_, ?_, ?_, ?_, ?_, ?_, ?_, ?_, ?_, ?_, trivial⟩ ?_
      · refine step_plain [] (by kernel_rfl) rfl fun us w' hG hV => ?_
        have o11 := (frame_old2 (us := us) (a := a0) (show (wfT[11]?).join = none from rfl)).trans k11
        generalize frame wfT a0 us = fr at *
        exact val_ok (v := .slice (some ⟨g, 0, none⟩) 40 c4) (w' := w') (by go_simp) hG (Below.refl _ _) rfl
      · refine step_plain [] (by kernel_rfl) rfl fun us w' hG hV => ?_
        have o8 := (frame_old2 (us := us) (a := a0) (show (wfT[8]?).join = none from rfl)).trans k8
        generalize frame wfT a0 us = fr at *
        exact val_ok (v := .pointer (some ⟨g8, 34, none⟩)) (w' := w') (by go_simp) hG (Below.refl _ _) rfl
      · refine step_plain [1] (by kernel_rfl) rfl fun us w' hG hV => ?_
        have e1 : us 1 = .pointer (some ⟨g8, 34, none⟩) := hV 1 (by simp)
        have v1 := (frame_at2 (us := us) hl (show (wfT[67]?).join = some 1 from rfl)).trans e1
        have hc := K34.out w' hG
        generalize frame wfT a0 us = fr at *
        exact val_ok (v := .int .u8 b6) (w' := w') (by go_simp) hG (Below.refl _ _) rfl
      · refine step_plain [] (by kernel_rfl) rfl fun us w' hG hV => ?_
        have o2 := (frame_old2 (us := us) (a := a0) (show (wfT[2]?).join = none from rfl)).trans k2
        generalize frame wfT a0 us = fr at *
        exact val_ok (v := .slice A2 m c2) (w' := w') (by go_simp) hG (Below.refl _ _) rfl
      · refine step_plain [3] (by kernel_rfl) rfl fun us w' hG hV => ?_
        have e3 : us 3 = .slice A2 m c2 := hV 3 (by simp)
        have v3 := (frame_at2 (us := us) hl (show (wfT[69]?).join = some 3 from rfl)).trans e3
        generalize frame wfT a0 us = fr at *
        exact val_ok (v := .int .i64 m) (w' := w') (by go_simp) hG (Below.refl _ _) rfl
      · refine step_plain [4] (by kernel_rfl) rfl fun us w' hG hV => ?_
        have e4 : us 4 = .int .i64 m := hV 4 (by simp)
        have v4 := (frame_at2 (us := us) hl (show (wfT[70]?).join = some 4 from rfl)).trans e4
        have hw := WQ.out
        have hw2 := WQ2.out
        generalize frame wfT a0 us = fr at *
        exact val_ok (v := .int .i64 q8) (w' := w') (by go_simp) hG (Below.refl _ _) rfl
      · refine step_plain [5] (by kernel_rfl) rfl fun us w' hG hV => ?_
        have e5 : us 5 = .int .i64 q8 := hV 5 (by simp)
        have v5 := (frame_at2 (us := us) hl (show (wfT[71]?).join = some 5 from rfl)).trans e5
        have hw := WQ3.out
        generalize frame wfT a0 us = fr at *
        exact val_ok (v := .int .u8 q8) (w' := w') (by go_simp) hG (Below.refl _ _) rfl
      · refine step_plain [2, 6] (by kernel_rfl) rfl fun us w' hG hV => ?_
        have e2 : us 2 = .int .u8 b6 := hV 2 (by simp)
        have v2 := (frame_at2 (us := us) hl (show (wfT[68]?).join = some 2 from rfl)).trans e2
        have e6 : us 6 = .int .u8 q8 := hV 6 (by simp)
        have v6 := (frame_at2 (us := us) hl (show (wfT[72]?).join = some 6 from rfl)).trans e6
        generalize frame wfT a0 us = fr at *
        exact val_ok (v := .slice (some ⟨w'.heap.size, 0, none⟩) 2 2) (w' := w'.alloc (.cells #[.int .u8 b6, .int .u8 q8] 5)) (by go_simp) (hG.below (alloc_below _ _)) (alloc_below _ _) ⟨_, rfl, heap_alloc_new _ _⟩
      · refine step_plain [] (by kernel_rfl) rfl fun us w' hG hV => ?_
        have o2 := (frame_old2 (us := us) (a := a0) (show (wfT[2]?).join = none from rfl)).trans k2
        generalize frame wfT a0 us = fr at *
        exact val_ok (v := .slice A2 m c2) (w' := w') (by go_simp) hG (Below.refl _ _) rfl
      · refine step_plain [] (by kernel_rfl) rfl fun us w' hG hV => ?_
        have o0 := (frame_old2 (us := us) (a := a0) (show (wfT[0]?).join = none from rfl)).trans k0
        generalize frame wfT a0 us = fr at *
        exact val_ok (v := .slice (some ⟨b, o, none⟩) n c) (w' := w') (by go_simp) hG (Below.refl _ _) rfl
      · refine step_plain [9] (by kernel_rfl) rfl fun us w' hG hV => ?_
        have e9 : us 9 = .slice (some ⟨b, o, none⟩) n c := hV 9 (by simp)
        have v9 := (frame_at2 (us := us) hl (show (wfT[75]?).join = some 9 from rfl)).trans e9
        have hsc := SC9.out w'
        generalize frame wfT a0 us = fr at *
        exact val_ok (v := .slice A9 n9 c9) (w' := w') (by go_simp) hG (Below.refl _ _) rfl
      · refine step_plain [0, 7, 8, 10] (by kernel_rfl) rfl fun us w' hG hV => ?_
        have e0 : us 0 = .slice (some ⟨g, 0, none⟩) 40 c4 := hV 0 (by simp)
        have v0 := (frame_at2 (us := us) hl (show (wfT[66]?).join = some 0 from rfl)).trans e0
        obtain ⟨q7, e7, r7⟩ := (show ∃ q, us 7 = .slice (some ⟨q, 0, none⟩) 2 2 ∧ w'.heap[q]? = some (.cells #[.int .u8 b6, .int .u8 q8] 5 (0, 0)) from hV 7 (by simp))
        have v7 := (frame_at2 (us := us) hl (show (wfT[73]?).join = some 7 from rfl)).trans e7
        have e8 : us 8 = .slice A2 m c2 := hV 8 (by simp)
        have v8 := (frame_at2 (us := us) hl (show (wfT[74]?).join = some 8 from rfl)).trans e8
        have e10 : us 10 = .slice A9 n9 c9 := hV 10 (by simp)
        have v10 := (frame_at2 (us := us) hl (show (wfT[76]?).join = some 10 from rfl)).trans e10
        generalize frame wfT a0 us = fr at *
        exact val_ok (v := .slice (some ⟨w'.heap.size, 0, none⟩) 4 4) (w' := w'.alloc (.cells #[.slice (some ⟨g, 0, none⟩) 40 c4, .slice (some ⟨q7, 0, none⟩) 2 2, .slice A2 m c2, .slice A9 n9 c9] 26)) (by go_simp) (hG.below (alloc_below _ _)) (alloc_below _ _) ⟨_, q7, rfl, heap_alloc_new _ _, by rw [(alloc_below w' _).block _ (lt_of_row r7)]; exact r7⟩
      · refine step_plain [11] (by kernel_rfl) rfl fun us w' hG hV => ?_
        obtain ⟨q11, p11, e11, r11, s11⟩ := (show ∃ q p, us 11 = .slice (some ⟨q, 0, none⟩) 4 4 ∧ w'.heap[q]? = some (.cells #[.slice (some ⟨g, 0, none⟩) 40 c4, .slice (some ⟨p, 0, none⟩) 2 2, .slice A2 m c2, .slice A9 n9 c9] 26 (0, 0)) ∧ w'.heap[p]? = some (.cells #[.int .u8 b6, .int .u8 q8] 5 (0, 0)) from hV 11 (by simp))
        have v11 := (frame_at2 (us := us) hl (show (wfT[77]?).join = some 11 from rfl)).trans e11
        have PL := chkC.PartAt.mk (p := ⟨some ⟨p11, 0, none⟩, 2, 2, [b6, q8]⟩) (row_nums .u8 s11 rfl 2 rfl) (show 2 ≤ 10000 by decide) Y2.out
        have CC := chkC.concat_any (some ⟨q11, 0, none⟩) 4 4 NN _ w' (parts_row4 r11 (PH.out w' hG) PL (PX.out w' hG) (PB.out w' hG)) (by decide) rfl (by simp only [chkC.nsum]; have := ENN.out; omega) (by have := NP.out; omega) (by have := NP.out; omega)
        have hcat : chkC.catL [⟨some ⟨g, 0, none⟩, 40, c4, H⟩, ⟨some ⟨p11, 0, none⟩, 2, 2, [b6, q8]⟩, ⟨A2, m, c2, ls⟩, ⟨A9, n9, c9, T9⟩] = X := by rw [← EXX.out]; simp [chkC.catL]
        rw [hcat] at CC
        generalize frame wfT a0 us = fr at *
        exact call_ok (f := 24) (args := #[.slice (some ⟨q11, 0, none⟩) 4 4]) (by go_simp) (CC.mono fun e w'' ⟨A', c', h1, h2, h3, h4, h5⟩ => ⟨_, h1, hG.below h5, h5, A', c', rfl, h4.less (Nat.le_trans LB0.out (Below.size hG))⟩)
      · refine step_plain [12] (by kernel_rfl) rfl fun us w' hG hV => ?_
        obtain ⟨A12, c12, e12, P12⟩ := (show ∃ A' c', us 12 = .slice A' NN c' ∧ Own .u8 5 w' w.heap.size (.slice A' NN c') X from hV 12 (by simp))
        have v12 := (frame_at2 (us := us) hl (show (wfT[78]?).join = some 12 from rfl)).trans e12
        generalize frame wfT a0 us = fr at *
        exact val_ok (v := .slice A12 NN c12) (w' := w') (by go_simp) hG (Below.refl _ _) ⟨A12, c12, rfl, P12⟩
      · refine step_plain [] (by kernel_rfl) rfl fun us w' hG hV => ?_
        generalize frame wfT a0 us = fr at *
        exact val_ok (v := .int .i64 0) (w' := w') (by go_simp) hG (Below.refl _ _) rfl
      · intro us v7 hG hV
        obtain ⟨AX, cX, e13, OX⟩ := (show ∃ A' c', us 13 = .slice A' NN c' ∧ Own .u8 5 v7 w.heap.size (.slice A' NN c') X from hV 13 (by decide))
        have e14 : us 14 = .int .i64 0 := hV 14 (by decide)
        subst ha0
        simp only [frame, wfT, fill]
        rw [e13, e14]
        have HO7 := Lib.hid OX
        have HG7 := Lib.hid hG
        clear hV hl hG OX k0 k2 k8 k11 e13 e14
        go_wp2_with fail
        go_ret2
        exact ⟨AX, NN, cX, by rw [E0.out]; rfl, by rw [EWX.out]; exact HO7.out, BW6.out.trans (Below.mono HG7.out BW6.out.size)⟩
end Go.Proofs.Ytbhcpbihbecphaa.sxC

/-
  Whether two packets are the same: rsame_any.
-/
namespace Go.Proofs.Ytbhcpbihbecphaa.pkC
open Go.ChangeShapes Go.WideShapes Go.ChangeAt Go.RowKit
open Go.Proofs.Ytbhcpbihbecphaa.memC Go.Proofs.Ytbhcpbihbecphaa.genC Go.Proofs.Ytbhcpbihbecphaa.butC Go.Proofs.Ytbhcpbihbecphaa.freeC Go.Proofs.Ytbhcpbihbecphaa.adC
set_option linter.unusedVariables false
set_option maxRecDepth 100000 in
set_option maxHeartbeats 4000000 in
theorem rsame_any (p q : Pkt) (A B : Option Addr) (n c m d : Nat) (xs ys : List Int) (w : World) (hp : p.Ok) (hq : q.Ok) (hx : Nums .u8 w w.heap.size A n xs) (hy : Nums .u8 w w.heap.size B m ys) (yx : ∀ x ∈ xs, Byte x) (yy : ∀ x ∈ ys, Byte x) :
    Calls Try.prog 19 #[.agg (pktV p A n c), .agg (pktV q B m d)] w (Ret w (.bool (sameB p xs q ys))) := by
  have e1 : (w.alloc (.cells (pktV p A n c) 28)).heap.size = w.heap.size + 1 := alloc_size _ _
  obtain ⟨W, hW⟩ : ∃ W, W = (w.alloc (.cells (pktV p A n c) 28)).alloc (.cells (pktV q B m d) 28) := ⟨_, rfl⟩
  have R0 : W.heap[w.heap.size]? = some (.cells (pktV p A n c) 28 (0, 0)) := by rw [hW, Below.block (alloc_below _ _) _ (by rw [e1]; omega)]; exact heap_alloc_new w _
  have R1 : W.heap[w.heap.size + 1]? = some (.cells (pktV q B m d) 28 (0, 0)) := by rw [hW, ← e1]; exact heap_alloc_new _ _
  have HB := Lib.hid (show Below w.heap.size w W by rw [hW]; exact ((Below.refl _ _).alloc (Nat.le_refl _) _).alloc (by simp) _)
  have c0 := pkC hp A n c
  have c1 := pkC hq B m d
  have EQ0 := Lib.hid (fun w' => eqa p.s q.s p.a q.a hp.la hq.la w')
  have EQ1 := Lib.hid (fun w' => eqa p.t q.t p.b q.b hp.lb hq.lb w')
  rw [← adrC_arr, ← adrC_arr] at EQ0 EQ1
  have IA := Lib.hid (adrC_info (s := p.s) hp.la)
  have IB := Lib.hid (adrC_info (s := q.s) hq.la)
  have IC := Lib.hid (adrC_info (s := p.t) hp.lb)
  have ID := Lib.hid (adrC_info (s := q.t) hq.lb)
  have SA := Lib.hid (PkC.part R0 c0.src)
  have SB := Lib.hid (PkC.part R1 c1.src)
  have SC := Lib.hid (PkC.part R0 c0.dst)
  have SD := Lib.hid (PkC.part R1 c1.dst)
  have k0 := PkC.cell R0 c0.proto
  have j0 := PkC.cell R1 c1.proto
  have k1 := PkC.cell R0 c0.hops
  have j1 := PkC.cell R1 c1.hops
  have k2 := PkC.cell R0 c0.id
  have j2 := PkC.cell R1 c1.id
  have k3 := PkC.cell R0 c0.whole
  have j3 := PkC.cell R1 c1.whole
  have k4 := PkC.cell R0 c0.more
  have j4 := PkC.cell R1 c1.more
  have k5 := PkC.cell R0 c0.off
  have j5 := PkC.cell R1 c1.off
  have k6 := PkC.cell R0 c0.load
  have j6 := PkC.cell R1 c1.load
  have hcx : (convert 26 9 (.slice A n c)).run Try.prog W = .ok (.string (strOfNums xs)) W := run_string (hx.below HB.out) c 26 5 9 Try.underlying26 Try.underlying5 Try.underlying9
  have hcy : (convert 26 9 (.slice B m d)).run Try.prog W = .ok (.string (strOfNums ys)) W := run_string (hy.below HB.out) d 26 5 9 Try.underlying26 Try.underlying5 Try.underlying9
  have HS : ((strOfNums xs).toList == (strOfNums ys).toList) = decide (xs = ys) := by
    rw [str_eqb yx yy]
    by_cases h : xs = ys
    · subst h; rw [lexL_self]; simp
    · rw [decide_eq_false h]; exact beq_eq_false_iff_ne.2 fun e => h (lexL_zero _ _ e)
  generalize strOfNums xs = X at *
  generalize strOfNums ys = Y at *
  obtain ⟨V, hV⟩ : ∃ V, V = sameB p xs q ys := ⟨_, rfl⟩
  rw [← hV]
  unfold sameB at hV
  generalize decide (xs = ys) = e8 at *
  generalize decide (p.s = q.s ∧ p.a = q.a) = e0 at *
  generalize decide (p.t = q.t ∧ p.b = q.b) = e1' at *
  generalize adrC p.s p.a = LA at *
  generalize adrC q.s q.a = LB at *
  generalize adrC p.t p.b = LC at *
  generalize adrC q.t q.b = LD at *
  generalize pktV p A n c = CP at *
  generalize pktV q B m d = CQ at *
  generalize p.proto = proto1 at *
  generalize q.proto = proto2 at *
  generalize p.hops = hops1 at *
  generalize q.hops = hops2 at *
  generalize p.id = id1 at *
  generalize q.id = id2 at *
  generalize p.whole = whole1 at *
  generalize q.whole = whole2 at *
  generalize p.more = more1 at *
  generalize q.more = more2 at *
  generalize p.off = off1 at *
  generalize q.off = off2 at *
  have HE := Lib.hid HS
  have HV := Lib.hid hV
  clear hp hq hx hy yx yy c0 c1 R0 R1 e1 HS hV
  go_enter Try.func19, Try.ntmps19
  go_upto_region 1 with fail
  rw [← hW]
  clear hW
  cases e0
  · have hv := Lib.hid (show V = false by rw [HV.out]; simp)
    go_wp2_with (first
      | go_skip
      | (with_reducible refine atC.at_load 24 5 ?_; refine wpList_load_partG (by kernel_rfl) 24 (.tmp 5) (by kernel_rfl) (w.heap.size) 0 (by kernel_rfl) LA _ SA.out Try.underlying24 rfl IA.out ?_)
      | (with_reducible refine atC.at_load 24 7 ?_; refine wpList_load_partG (by kernel_rfl) 24 (.tmp 7) (by kernel_rfl) (w.heap.size + 1) 0 (by kernel_rfl) LB _ SB.out Try.underlying24 rfl IB.out ?_)
      | (with_reducible refine atC.at_bin .eql 24 ?_; refine wpList_runG (by kernel_rfl) _ (eq_run (T := 24) (s := 6) (x := 8) rfl (by kernel_rfl) (by kernel_rfl) (EQ0.out _) guard_addr) ?_)
      | (with_reducible refine atC.at_load 24 11 ?_; refine wpList_load_partG (by kernel_rfl) 24 (.tmp 11) (by kernel_rfl) (w.heap.size) 17 (by kernel_rfl) LC _ SC.out Try.underlying24 rfl IC.out ?_)
      | (with_reducible refine atC.at_load 24 13 ?_; refine wpList_load_partG (by kernel_rfl) 24 (.tmp 13) (by kernel_rfl) (w.heap.size + 1) 17 (by kernel_rfl) LD _ SD.out Try.underlying24 rfl ID.out ?_)
      | (with_reducible refine atC.at_bin .eql 24 ?_; refine wpList_runG (by kernel_rfl) _ (eq_run (T := 24) (s := 12) (x := 14) rfl (by kernel_rfl) (by kernel_rfl) (EQ1.out _) guard_addr) ?_)
      | (with_reducible refine atC.at_bin .eql 9 ?_; refine wpList_runG (by kernel_rfl) _ (seq_run (T := 9) (S := X) (S' := Y) rfl (by kernel_rfl) (by kernel_rfl) HE.out) ?_))
    go_ret
    exact ⟨ret_bool hv.out.symm, HB.out⟩
  · cases e1'
    · have hv := Lib.hid (show V = false by rw [HV.out]; simp)
      go_wp2_with (first
        | go_skip
        | (with_reducible refine atC.at_load 24 5 ?_; refine wpList_load_partG (by kernel_rfl) 24 (.tmp 5) (by kernel_rfl) (w.heap.size) 0 (by kernel_rfl) LA _ SA.out Try.underlying24 rfl IA.out ?_)
        | (with_reducible refine atC.at_load 24 7 ?_; refine wpList_load_partG (by kernel_rfl) 24 (.tmp 7) (by kernel_rfl) (w.heap.size + 1) 0 (by kernel_rfl) LB _ SB.out Try.underlying24 rfl IB.out ?_)
        | (with_reducible refine atC.at_bin .eql 24 ?_; refine wpList_runG (by kernel_rfl) _ (eq_run (T := 24) (s := 6) (x := 8) rfl (by kernel_rfl) (by kernel_rfl) (EQ0.out _) guard_addr) ?_)
        | (with_reducible refine atC.at_load 24 11 ?_; refine wpList_load_partG (by kernel_rfl) 24 (.tmp 11) (by kernel_rfl) (w.heap.size) 17 (by kernel_rfl) LC _ SC.out Try.underlying24 rfl IC.out ?_)
        | (with_reducible refine atC.at_load 24 13 ?_; refine wpList_load_partG (by kernel_rfl) 24 (.tmp 13) (by kernel_rfl) (w.heap.size + 1) 17 (by kernel_rfl) LD _ SD.out Try.underlying24 rfl ID.out ?_)
        | (with_reducible refine atC.at_bin .eql 24 ?_; refine wpList_runG (by kernel_rfl) _ (eq_run (T := 24) (s := 12) (x := 14) rfl (by kernel_rfl) (by kernel_rfl) (EQ1.out _) guard_addr) ?_)
        | (with_reducible refine atC.at_bin .eql 9 ?_; refine wpList_runG (by kernel_rfl) _ (seq_run (T := 9) (S := X) (S' := Y) rfl (by kernel_rfl) (by kernel_rfl) HE.out) ?_))
      go_ret
      exact ⟨ret_bool hv.out.symm, HB.out⟩
    · by_cases h2 : proto1 = proto2
      · subst h2
        by_cases h3 : hops1 = hops2
        · subst h3
          by_cases h4 : id1 = id2
          · subst h4
            cases hb5 : (whole1 == whole2)
            · have h5 : ¬ whole1 = whole2 := by simpa using hb5
              have hv := Lib.hid (show V = false by rw [HV.out]; simp [h5])
              clear h5
              go_wp2_with (first
                | go_skip
                | (with_reducible refine atC.at_load 24 5 ?_; refine wpList_load_partG (by kernel_rfl) 24 (.tmp 5) (by kernel_rfl) (w.heap.size) 0 (by kernel_rfl) LA _ SA.out Try.underlying24 rfl IA.out ?_)
                | (with_reducible refine atC.at_load 24 7 ?_; refine wpList_load_partG (by kernel_rfl) 24 (.tmp 7) (by kernel_rfl) (w.heap.size + 1) 0 (by kernel_rfl) LB _ SB.out Try.underlying24 rfl IB.out ?_)
                | (with_reducible refine atC.at_bin .eql 24 ?_; refine wpList_runG (by kernel_rfl) _ (eq_run (T := 24) (s := 6) (x := 8) rfl (by kernel_rfl) (by kernel_rfl) (EQ0.out _) guard_addr) ?_)
                | (with_reducible refine atC.at_load 24 11 ?_; refine wpList_load_partG (by kernel_rfl) 24 (.tmp 11) (by kernel_rfl) (w.heap.size) 17 (by kernel_rfl) LC _ SC.out Try.underlying24 rfl IC.out ?_)
                | (with_reducible refine atC.at_load 24 13 ?_; refine wpList_load_partG (by kernel_rfl) 24 (.tmp 13) (by kernel_rfl) (w.heap.size + 1) 17 (by kernel_rfl) LD _ SD.out Try.underlying24 rfl ID.out ?_)
                | (with_reducible refine atC.at_bin .eql 24 ?_; refine wpList_runG (by kernel_rfl) _ (eq_run (T := 24) (s := 12) (x := 14) rfl (by kernel_rfl) (by kernel_rfl) (EQ1.out _) guard_addr) ?_)
                | (with_reducible refine atC.at_bin .eql 9 ?_; refine wpList_runG (by kernel_rfl) _ (seq_run (T := 9) (S := X) (S' := Y) rfl (by kernel_rfl) (by kernel_rfl) HE.out) ?_))
              go_ret
              exact ⟨ret_bool hv.out.symm, HB.out⟩
            · obtain rfl : whole1 = whole2 := by simpa using hb5
              cases hb6 : (more1 == more2)
              · have h6 : ¬ more1 = more2 := by simpa using hb6
                have hv := Lib.hid (show V = false by rw [HV.out]; simp [h6])
                clear h6
                go_wp2_with (first
                  | go_skip
                  | (with_reducible refine atC.at_load 24 5 ?_; refine wpList_load_partG (by kernel_rfl) 24 (.tmp 5) (by kernel_rfl) (w.heap.size) 0 (by kernel_rfl) LA _ SA.out Try.underlying24 rfl IA.out ?_)
                  | (with_reducible refine atC.at_load 24 7 ?_; refine wpList_load_partG (by kernel_rfl) 24 (.tmp 7) (by kernel_rfl) (w.heap.size + 1) 0 (by kernel_rfl) LB _ SB.out Try.underlying24 rfl IB.out ?_)
                  | (with_reducible refine atC.at_bin .eql 24 ?_; refine wpList_runG (by kernel_rfl) _ (eq_run (T := 24) (s := 6) (x := 8) rfl (by kernel_rfl) (by kernel_rfl) (EQ0.out _) guard_addr) ?_)
                  | (with_reducible refine atC.at_load 24 11 ?_; refine wpList_load_partG (by kernel_rfl) 24 (.tmp 11) (by kernel_rfl) (w.heap.size) 17 (by kernel_rfl) LC _ SC.out Try.underlying24 rfl IC.out ?_)
                  | (with_reducible refine atC.at_load 24 13 ?_; refine wpList_load_partG (by kernel_rfl) 24 (.tmp 13) (by kernel_rfl) (w.heap.size + 1) 17 (by kernel_rfl) LD _ SD.out Try.underlying24 rfl ID.out ?_)
                  | (with_reducible refine atC.at_bin .eql 24 ?_; refine wpList_runG (by kernel_rfl) _ (eq_run (T := 24) (s := 12) (x := 14) rfl (by kernel_rfl) (by kernel_rfl) (EQ1.out _) guard_addr) ?_)
                  | (with_reducible refine atC.at_bin .eql 9 ?_; refine wpList_runG (by kernel_rfl) _ (seq_run (T := 9) (S := X) (S' := Y) rfl (by kernel_rfl) (by kernel_rfl) HE.out) ?_))
                go_ret
                exact ⟨ret_bool hv.out.symm, HB.out⟩
              · obtain rfl : more1 = more2 := by simpa using hb6
                by_cases h7 : off1 = off2
                · subst h7
                  cases e8
                  · have hv := Lib.hid (show V = false by rw [HV.out]; simp)
                    go_wp2_with (first
                      | go_skip
                      | (with_reducible refine atC.at_load 24 5 ?_; refine wpList_load_partG (by kernel_rfl) 24 (.tmp 5) (by kernel_rfl) (w.heap.size) 0 (by kernel_rfl) LA _ SA.out Try.underlying24 rfl IA.out ?_)
                      | (with_reducible refine atC.at_load 24 7 ?_; refine wpList_load_partG (by kernel_rfl) 24 (.tmp 7) (by kernel_rfl) (w.heap.size + 1) 0 (by kernel_rfl) LB _ SB.out Try.underlying24 rfl IB.out ?_)
                      | (with_reducible refine atC.at_bin .eql 24 ?_; refine wpList_runG (by kernel_rfl) _ (eq_run (T := 24) (s := 6) (x := 8) rfl (by kernel_rfl) (by kernel_rfl) (EQ0.out _) guard_addr) ?_)
                      | (with_reducible refine atC.at_load 24 11 ?_; refine wpList_load_partG (by kernel_rfl) 24 (.tmp 11) (by kernel_rfl) (w.heap.size) 17 (by kernel_rfl) LC _ SC.out Try.underlying24 rfl IC.out ?_)
                      | (with_reducible refine atC.at_load 24 13 ?_; refine wpList_load_partG (by kernel_rfl) 24 (.tmp 13) (by kernel_rfl) (w.heap.size + 1) 17 (by kernel_rfl) LD _ SD.out Try.underlying24 rfl ID.out ?_)
                      | (with_reducible refine atC.at_bin .eql 24 ?_; refine wpList_runG (by kernel_rfl) _ (eq_run (T := 24) (s := 12) (x := 14) rfl (by kernel_rfl) (by kernel_rfl) (EQ1.out _) guard_addr) ?_)
                      | (with_reducible refine atC.at_bin .eql 9 ?_; refine wpList_runG (by kernel_rfl) _ (seq_run (T := 9) (S := X) (S' := Y) rfl (by kernel_rfl) (by kernel_rfl) HE.out) ?_))
                    go_ret
                    exact ⟨ret_bool hv.out.symm, HB.out⟩
                  · have hv := Lib.hid (show V = true by rw [HV.out]; simp)
                    go_wp2_with (first
                      | go_skip
                      | (with_reducible refine atC.at_load 24 5 ?_; refine wpList_load_partG (by kernel_rfl) 24 (.tmp 5) (by kernel_rfl) (w.heap.size) 0 (by kernel_rfl) LA _ SA.out Try.underlying24 rfl IA.out ?_)
                      | (with_reducible refine atC.at_load 24 7 ?_; refine wpList_load_partG (by kernel_rfl) 24 (.tmp 7) (by kernel_rfl) (w.heap.size + 1) 0 (by kernel_rfl) LB _ SB.out Try.underlying24 rfl IB.out ?_)
                      | (with_reducible refine atC.at_bin .eql 24 ?_; refine wpList_runG (by kernel_rfl) _ (eq_run (T := 24) (s := 6) (x := 8) rfl (by kernel_rfl) (by kernel_rfl) (EQ0.out _) guard_addr) ?_)
                      | (with_reducible refine atC.at_load 24 11 ?_; refine wpList_load_partG (by kernel_rfl) 24 (.tmp 11) (by kernel_rfl) (w.heap.size) 17 (by kernel_rfl) LC _ SC.out Try.underlying24 rfl IC.out ?_)
                      | (with_reducible refine atC.at_load 24 13 ?_; refine wpList_load_partG (by kernel_rfl) 24 (.tmp 13) (by kernel_rfl) (w.heap.size + 1) 17 (by kernel_rfl) LD _ SD.out Try.underlying24 rfl ID.out ?_)
                      | (with_reducible refine atC.at_bin .eql 24 ?_; refine wpList_runG (by kernel_rfl) _ (eq_run (T := 24) (s := 12) (x := 14) rfl (by kernel_rfl) (by kernel_rfl) (EQ1.out _) guard_addr) ?_)
                      | (with_reducible refine atC.at_bin .eql 9 ?_; refine wpList_runG (by kernel_rfl) _ (seq_run (T := 9) (S := X) (S' := Y) rfl (by kernel_rfl) (by kernel_rfl) HE.out) ?_))
                    go_ret
                    exact ⟨ret_bool hv.out.symm, HB.out⟩
                · have hq7 : (off1 == off2) = false := beq_eq_false_iff_ne.2 h7
                  have hv := Lib.hid (show V = false by rw [HV.out]; simp [h7])
                  go_wp2_with (first
                    | go_skip
                    | (with_reducible refine atC.at_load 24 5 ?_; refine wpList_load_partG (by kernel_rfl) 24 (.tmp 5) (by kernel_rfl) (w.heap.size) 0 (by kernel_rfl) LA _ SA.out Try.underlying24 rfl IA.out ?_)
                    | (with_reducible refine atC.at_load 24 7 ?_; refine wpList_load_partG (by kernel_rfl) 24 (.tmp 7) (by kernel_rfl) (w.heap.size + 1) 0 (by kernel_rfl) LB _ SB.out Try.underlying24 rfl IB.out ?_)
                    | (with_reducible refine atC.at_bin .eql 24 ?_; refine wpList_runG (by kernel_rfl) _ (eq_run (T := 24) (s := 6) (x := 8) rfl (by kernel_rfl) (by kernel_rfl) (EQ0.out _) guard_addr) ?_)
                    | (with_reducible refine atC.at_load 24 11 ?_; refine wpList_load_partG (by kernel_rfl) 24 (.tmp 11) (by kernel_rfl) (w.heap.size) 17 (by kernel_rfl) LC _ SC.out Try.underlying24 rfl IC.out ?_)
                    | (with_reducible refine atC.at_load 24 13 ?_; refine wpList_load_partG (by kernel_rfl) 24 (.tmp 13) (by kernel_rfl) (w.heap.size + 1) 17 (by kernel_rfl) LD _ SD.out Try.underlying24 rfl ID.out ?_)
                    | (with_reducible refine atC.at_bin .eql 24 ?_; refine wpList_runG (by kernel_rfl) _ (eq_run (T := 24) (s := 12) (x := 14) rfl (by kernel_rfl) (by kernel_rfl) (EQ1.out _) guard_addr) ?_)
                    | (with_reducible refine atC.at_bin .eql 9 ?_; refine wpList_runG (by kernel_rfl) _ (seq_run (T := 9) (S := X) (S' := Y) rfl (by kernel_rfl) (by kernel_rfl) HE.out) ?_))
                  go_ret
                  exact ⟨ret_bool hv.out.symm, HB.out⟩
          · have hq4 : (id1 == id2) = false := beq_eq_false_iff_ne.2 h4
            have hv := Lib.hid (show V = false by rw [HV.out]; simp [h4])
            go_wp2_with (first
              | go_skip
              | (with_reducible refine atC.at_load 24 5 ?_; refine wpList_load_partG (by kernel_rfl) 24 (.tmp 5) (by kernel_rfl) (w.heap.size) 0 (by kernel_rfl) LA _ SA.out Try.underlying24 rfl IA.out ?_)
              | (with_reducible refine atC.at_load 24 7 ?_; refine wpList_load_partG (by kernel_rfl) 24 (.tmp 7) (by kernel_rfl) (w.heap.size + 1) 0 (by kernel_rfl) LB _ SB.out Try.underlying24 rfl IB.out ?_)
              | (with_reducible refine atC.at_bin .eql 24 ?_; refine wpList_runG (by kernel_rfl) _ (eq_run (T := 24) (s := 6) (x := 8) rfl (by kernel_rfl) (by kernel_rfl) (EQ0.out _) guard_addr) ?_)
              | (with_reducible refine atC.at_load 24 11 ?_; refine wpList_load_partG (by kernel_rfl) 24 (.tmp 11) (by kernel_rfl) (w.heap.size) 17 (by kernel_rfl) LC _ SC.out Try.underlying24 rfl IC.out ?_)
              | (with_reducible refine atC.at_load 24 13 ?_; refine wpList_load_partG (by kernel_rfl) 24 (.tmp 13) (by kernel_rfl) (w.heap.size + 1) 17 (by kernel_rfl) LD _ SD.out Try.underlying24 rfl ID.out ?_)
              | (with_reducible refine atC.at_bin .eql 24 ?_; refine wpList_runG (by kernel_rfl) _ (eq_run (T := 24) (s := 12) (x := 14) rfl (by kernel_rfl) (by kernel_rfl) (EQ1.out _) guard_addr) ?_)
              | (with_reducible refine atC.at_bin .eql 9 ?_; refine wpList_runG (by kernel_rfl) _ (seq_run (T := 9) (S := X) (S' := Y) rfl (by kernel_rfl) (by kernel_rfl) HE.out) ?_))
            go_ret
            exact ⟨ret_bool hv.out.symm, HB.out⟩
        · have hq3 : (hops1 == hops2) = false := beq_eq_false_iff_ne.2 h3
          have hv := Lib.hid (show V = false by rw [HV.out]; simp [h3])
          go_wp2_with (first
            | go_skip
            | (with_reducible refine atC.at_load 24 5 ?_; refine wpList_load_partG (by kernel_rfl) 24 (.tmp 5) (by kernel_rfl) (w.heap.size) 0 (by kernel_rfl) LA _ SA.out Try.underlying24 rfl IA.out ?_)
            | (with_reducible refine atC.at_load 24 7 ?_; refine wpList_load_partG (by kernel_rfl) 24 (.tmp 7) (by kernel_rfl) (w.heap.size + 1) 0 (by kernel_rfl) LB _ SB.out Try.underlying24 rfl IB.out ?_)
            | (with_reducible refine atC.at_bin .eql 24 ?_; refine wpList_runG (by kernel_rfl) _ (eq_run (T := 24) (s := 6) (x := 8) rfl (by kernel_rfl) (by kernel_rfl) (EQ0.out _) guard_addr) ?_)
            | (with_reducible refine atC.at_load 24 11 ?_; refine wpList_load_partG (by kernel_rfl) 24 (.tmp 11) (by kernel_rfl) (w.heap.size) 17 (by kernel_rfl) LC _ SC.out Try.underlying24 rfl IC.out ?_)
            | (with_reducible refine atC.at_load 24 13 ?_; refine wpList_load_partG (by kernel_rfl) 24 (.tmp 13) (by kernel_rfl) (w.heap.size + 1) 17 (by kernel_rfl) LD _ SD.out Try.underlying24 rfl ID.out ?_)
            | (with_reducible refine atC.at_bin .eql 24 ?_; refine wpList_runG (by kernel_rfl) _ (eq_run (T := 24) (s := 12) (x := 14) rfl (by kernel_rfl) (by kernel_rfl) (EQ1.out _) guard_addr) ?_)
            | (with_reducible refine atC.at_bin .eql 9 ?_; refine wpList_runG (by kernel_rfl) _ (seq_run (T := 9) (S := X) (S' := Y) rfl (by kernel_rfl) (by kernel_rfl) HE.out) ?_))
          go_ret
          exact ⟨ret_bool hv.out.symm, HB.out⟩
      · have hq2 : (proto1 == proto2) = false := beq_eq_false_iff_ne.2 h2
        have hv := Lib.hid (show V = false by rw [HV.out]; simp [h2])
        go_wp2_with (first
          | go_skip
          | (with_reducible refine atC.at_load 24 5 ?_; refine wpList_load_partG (by kernel_rfl) 24 (.tmp 5) (by kernel_rfl) (w.heap.size) 0 (by kernel_rfl) LA _ SA.out Try.underlying24 rfl IA.out ?_)
          | (with_reducible refine atC.at_load 24 7 ?_; refine wpList_load_partG (by kernel_rfl) 24 (.tmp 7) (by kernel_rfl) (w.heap.size + 1) 0 (by kernel_rfl) LB _ SB.out Try.underlying24 rfl IB.out ?_)
          | (with_reducible refine atC.at_bin .eql 24 ?_; refine wpList_runG (by kernel_rfl) _ (eq_run (T := 24) (s := 6) (x := 8) rfl (by kernel_rfl) (by kernel_rfl) (EQ0.out _) guard_addr) ?_)
          | (with_reducible refine atC.at_load 24 11 ?_; refine wpList_load_partG (by kernel_rfl) 24 (.tmp 11) (by kernel_rfl) (w.heap.size) 17 (by kernel_rfl) LC _ SC.out Try.underlying24 rfl IC.out ?_)
          | (with_reducible refine atC.at_load 24 13 ?_; refine wpList_load_partG (by kernel_rfl) 24 (.tmp 13) (by kernel_rfl) (w.heap.size + 1) 17 (by kernel_rfl) LD _ SD.out Try.underlying24 rfl ID.out ?_)
          | (with_reducible refine atC.at_bin .eql 24 ?_; refine wpList_runG (by kernel_rfl) _ (eq_run (T := 24) (s := 12) (x := 14) rfl (by kernel_rfl) (by kernel_rfl) (EQ1.out _) guard_addr) ?_)
          | (with_reducible refine atC.at_bin .eql 9 ?_; refine wpList_runG (by kernel_rfl) _ (seq_run (T := 9) (S := X) (S' := Y) rfl (by kernel_rfl) (by kernel_rfl) HE.out) ?_))
        go_ret
        exact ⟨ret_bool hv.out.symm, HB.out⟩
end Go.Proofs.Ytbhcpbihbecphaa.pkC
