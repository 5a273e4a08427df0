/-
  4 texts of a proof, joined.
-/
import Derived.Test.YtmbfgolcinniiaaMg22
import Derived.Test.YtmbfgolcinniiaaMg20
import Derived.Test.YtmbfgolcinniiaaMg24
import Derived.Test.YtmbfgolcinniiaaMg6
import Derived.Test.YtmbfgolcinniiaaMg15
import Derived.Test.YtmbfgolcinniiaaMg23
import Derived.Test.YtmbfgolcinniiaaMg21

/-
  The bytes of a message: the document's.
-/
namespace Go.Proofs.Ytmbfgolcinniiaa.icC
open Go.ChangeShapes Go.WideShapes Go.ChangeAt Go.RowKit
open Go.Proofs.Ytmbfgolcinniiaa.memC Go.Proofs.Ytmbfgolcinniiaa.genC Go.Proofs.Ytmbfgolcinniiaa.butC Go.Proofs.Ytmbfgolcinniiaa.freeC Go.Proofs.Ytmbfgolcinniiaa.adC
open Go.Proofs.Ytmbfgolcinniiaa.octC (numL getZ putL)
set_option linter.unusedVariables false
/-- numbers put behind bytes, the numbers a literal -/
def PutR (w : World) (N : Nat) (T : List Int) (e : Ending) (w' : World) : Prop := ∃ A c, e = .returned (.slice A N c) ∧ Own .u8 5 w' w.heap.size (.slice A N c) T ∧ kdC.Key w' A N c T ∧ Below w.heap.size w w'
theorem key_below {w w' : World} {A : Option Addr} {n c : Nat} {bs : List Int} (h : kdC.Key w A n c bs) (b : Below w.heap.size w w') : kdC.Key w' A n c bs := ⟨(h.1.below b).more b.size, h.2, h.3, h.4⟩
theorem rput_lit (w : World) {A : Option Addr} {n c : Nat} {bs : List Int} (hb : kdC.Key w A n c bs) (ns : List Int) (C : Array Value) (k : Nat) (s : Nat) (z : Int) (N : Nat) (T : List Int) (hC : C = (ns.map (Value.int .u64)).toArray) (hk : ns.length = k) (hz : (s : Int) = z) (hs : s ≤ 8) (hn : n ≤ 3000) (hm : k ≤ 300) (hT : putL bs s ns = T) (hN : T.length = N) :
    Calls Try.prog 43 #[.slice A n c, .int .i64 z, .slice (some ⟨w.heap.size, 0, none⟩) k k] (w.alloc (.cells C 60)) (PutR w N T) := by
  have B := alloc_below w (.cells C 60)
  refine (kdC.rput_key (bs := bs) (ns := ns) s z N T hz hs (key_below hb B) (pkC.row_nums .u64 (xs := ns) (heap_alloc_new w _) hC k hk) (by omega) hm hT hN).mono fun e w' ⟨A', c', h1, h2, h3, h4⟩ => ⟨A', c', h1, h2.less B.size, h3, B.trans (h4.mono B.size)⟩
theorem numL_len (s : Nat) (x : Int) : (numL s x).length = s := octC.numL_len s x
theorem headM_byte {m : Ms} (h : m.Ok) {six : Bool} {ck : Int} (k0 : 0 ≤ ck) (k1 : ck ≤ 65535) : ∀ x ∈ headM m six ck, Byte x := by
  unfold headM
  intro x hx
  rcases List.mem_append.1 hx with hx | hx
  · have b1 := tyM_byte m.ki.toNat six
    have b2 : Byte (coM m six) := by
      unfold coM; split
      · unfold Byte; omega
      · exact h.co
    have b3 : Byte (ck / 256) := by unfold Byte; omega
    have b4 : Byte (ck % 256) := by unfold Byte; omega
    simp at hx
    rcases hx with rfl | rfl | rfl | rfl <;> assumption
  · split at hx
    · exact kdC.numL_byte _ _ x hx
    · rcases List.mem_append.1 hx with hx | hx <;> exact kdC.numL_byte _ _ x hx
theorem bytesM_byte {m : Ms} (h : m.Ok) {six : Bool} {xs : List Int} (hy : ∀ x ∈ xs, Byte x) {ck : Int} (k0 : 0 ≤ ck) (k1 : ck ≤ 65535) : ∀ x ∈ bytesM m six xs ck, Byte x := by
  unfold bytesM
  intro x hx
  rcases List.mem_append.1 hx with hx | hx
  · exact headM_byte h k0 k1 x hx
  · exact hy x hx
/-- some bytes of the call's own -/
def OwnN (w : World) (N : Nat) (T : List Int) (e : Ending) (w' : World) : Prop := ∃ A c, e = .returned (.slice A N c) ∧ Own .u8 5 w' w.heap.size (.slice A N c) T ∧ Below w.heap.size w w'
set_option maxRecDepth 100000 in
set_option maxHeartbeats 400000 in
theorem rbytes_any (m : Ms) (A : Option Addr) (n c : Nat) (six : Bool) (xs : List Int) (ck : Int) (w : World) (hm : m.Ok) (hk1 : 1 ≤ m.ki) (hk5 : m.ki ≤ 5) (hx : Nums .u8 w w.heap.size A n xs) (hn : n ≤ 20000) (k0 : 0 ≤ ck) (k1 : ck ≤ 65535) :
    Calls Try.prog 30 #[.agg (msV m A n c), .bool six, .int .u16 ck] w (OwnN w (8 + n) (bytesM m six xs ck)) := by
  have hxl := hx.len
  obtain ⟨W, hW⟩ : ∃ W, W = w.alloc (.cells (msV m A n c) 26) := ⟨_, rfl⟩
  have HB := Lib.hid (show Below w.heap.size w W by rw [hW]; exact alloc_below _ _)
  have R3 := Lib.hid (show W.heap[w.heap.size]? = some (.cells (msV m A n c) 26 (0, 0)) by rw [hW]; exact heap_alloc_new _ _)
  have OC := msC m A n c
  have KR := Lib.hid (fun (w' : World) (h : Below W.heap.size W w') => (show w'.heap[w.heap.size]? = some (.cells (msV m A n c) 26 (0, 0)) by rw [h.block _ (lt_of_rowI R3.out)]; exact R3.out))
  have KX := fun (k : Nat) (v : Value) (h : (msV m A n c)[k]? = some v) (w' : World) (hb : Below W.heap.size W w') => pkC.PkC.cell (KR.out w' hb) h
  have KK := Lib.hid (KX 0 _ OC.ki)
  have KC := Lib.hid (KX 1 _ OC.co)
  have KI := Lib.hid (KX 2 _ OC.id)
  have KQ := Lib.hid (KX 3 _ OC.sq)
  have KM := Lib.hid (KX 4 _ OC.mt)
  have KD := Lib.hid (KX 5 _ OC.da)
  have XN := Lib.hid (fun (w' : World) (h : Below W.heap.size W w') => (show Nums .u8 w' w.heap.size A n xs from hx.below (HB.out.trans (h.mono HB.out.size))))
  have p0 := KK.out W (Below.refl _ _)
  have p1 := KC.out W (Below.refl _ _)
  have SW := Lib.hid HB.out.size
  have VI : IntKind.u64.wrap m.id = m.id := IntWalk.u64_in _ (by have := hm.id; unfold U16 at this; omega)
  have VQ : IntKind.u64.wrap m.sq = m.sq := IntWalk.u64_in _ (by have := hm.sq; unfold U16 at this; omega)
  have VM : IntKind.u64.wrap m.mt = m.mt := IntWalk.u64_in _ (by have := hm.mt; unfold U32 at this; omega)
  have hb0 := headM_byte hm (six := six) k0 k1
  have hl0 := headM_len m six ck
  have E0 : headM m six ck = if m.ki = 4 then putL [tyM m.ki.toNat six, coM m six, ck / 256, ck % 256] 4 [m.mt] else putL [tyM m.ki.toNat six, coM m six, ck / 256, ck % 256] 2 [m.id, m.sq] := by
    unfold headM putL; split <;> simp
  have hT0 : ∀ x ∈ [tyM m.ki.toNat six, coM m six, ck / 256, ck % 256], Byte x := fun x hx => hb0 x (by unfold headM; exact List.mem_append.2 (.inl hx))
  obtain ⟨X2, hX2⟩ : ∃ X, X = bytesM m six xs ck := ⟨_, rfl⟩
  rw [← hX2]
  unfold bytesM at hX2
  obtain ⟨X1, hX1⟩ : ∃ X, X = headM m six ck := ⟨_, rfl⟩
  rw [← hX1] at hX2 E0 hl0
  obtain ⟨k, hk⟩ : ∃ k : Nat, m.ki = (k : Int) := ⟨m.ki.toNat, by omega⟩
  rw [hk] at hk1 hk5 p0 E0 KK
  rw [hk] at hT0
  rw [show ((k : Int)).toNat = k from Int.toNat_natCast k] at E0 hT0
  have hk6 : k < 6 := by omega
  have TT := Lib.hid (fun w => types_any k six w hk6)
  obtain ⟨ty, hty⟩ : ∃ t, t = tyM k six := ⟨_, rfl⟩
  rw [← hty] at E0 hT0 TT
  have hco : coM m six = if (k : Int) = 4 ∧ six = false then 4 else m.co := by unfold coM; rw [hk]
  obtain ⟨c7, hc7⟩ : ∃ c, c = coM m six := ⟨_, rfl⟩
  rw [← hc7] at hco E0 hT0
  have w1 : IntKind.u8.wrap (ck / 256) = ck / 256 := IntWalk.u8_in _ (by omega)
  have w2 : IntKind.u8.wrap ck = ck % 256 := IntKind.wrap_u8 ck
  obtain ⟨i0, hi0, hz0, hz1, hz2⟩ := info_parts byte_inf
  have I1 := Lib.hid hi0; have I2 := Lib.hid hz0; have I3 := Lib.hid hz1; have I4 := Lib.hid hz2
  have LX1 := Lib.hid hl0
  have EX2 := Lib.hid hX2
  have HNn := Lib.hid hn
  have HXL := Lib.hid hxl
  have HT0 := Lib.hid hT0
  have HCO := Lib.hid hco
  have HE0 := Lib.hid E0
  have W1 := Lib.hid w1
  have W2 := Lib.hid w2
  have WI := Lib.hid VI
  have WQ := Lib.hid VQ
  have WM := Lib.hid VM
  clear hc7 hty hm hx hn hxl KX OC hb0 hl0 hX2 hX1 hk hk6 hT0 hk1 hk5 hi0 hz0 hz1 hz2 hco E0 w1 w2 VI VQ VM
  generalize m.co = co at *
  generalize m.id = id at *
  generalize m.sq = sq at *
  generalize m.mt = mt at *
  generalize msV m A n c = CP at *
  clear R3
  go_enter Try.func30, Try.ntmps30
  try simp only [List.append_eq, List.cons_append, List.nil_append]
  go_upto_region 1 with fail
  rw [← hW]
  clear hW KR
  by_cases h4 : (k : Int) = 4
  · have e4 : ((k : Int) == 4) = true := beq_iff_eq.2 h4
    have HE1 := HE0.out
    rw [if_pos h4] at HE1
    have hc := HCO.out
    clear HE0 HCO
    cases six
    · rw [if_pos ⟨h4, rfl⟩] at hc
      subst hc
      have HE1 := Lib.hid HE1.symm
      clear h4
      go_upto_region 4 with fail
      clear p1
      go_upto_region 5 with (first
        | (go_at_call 39; (refine (TT.out _).mono ?_); rintro e w2 ⟨rfl, B2⟩
           have HW2 := Lib.hid (show Below W.heap.size W w2 from B2)
           clear B2))
      have HK0 := Lib.hid (show kdC.Key (w2.alloc (.cells #[.int .u8 ty, .int .u8 4, .int .u8 (ck / 256), .int .u8 (ck % 256)] 5)) (some ⟨w2.heap.size, 0, none⟩) 4 4 [ty, 4, ck / 256, ck % 256] from ⟨pkC.row_nums .u8 (xs := [ty, 4, ck / 256, ck % 256]) (heap_alloc_new _ _) rfl 4 rfl, HT0.out, by decide, by decide⟩)
      have HW3 := Lib.hid (show Below W.heap.size W (w2.alloc (.cells #[.int .u8 ty, .int .u8 4, .int .u8 (ck / 256), .int .u8 (ck % 256)] 5)) from HW2.out.trans ((alloc_below _ _).mono HW2.out.size))
      generalize w2.alloc (.cells #[.int .u8 ty, .int .u8 4, .int .u8 (ck / 256), .int .u8 (ck % 256)] 5) = w3 at *
      generalize (some (⟨w2.heap.size, 0, none⟩ : Addr)) = A3 at *
      clear HW2 TT k0 k1 W1 W2 HT0
      have q4 := KM.out w3 HW3.out
      have vm := WM.out
      have PP := Lib.hid (rput_lit w3 HK0.out [mt] #[.int .u64 mt] 1 4 4 8 X1 rfl rfl rfl (by decide) (by decide) (by decide) HE1.out LX1.out)
      have q0 := KK.out w3 HW3.out
      unfold PutR at PP
      clear HK0
      go_upto_region 8 with (first
        | (go_at_call 43; (refine PP.out.mono ?_); rintro e w5 ⟨A5, c5, rfl, O5, K5, BB⟩
           have HW5 := Lib.hid (HW3.out.trans (BB.mono HW3.out.size))
           have HO5 := Lib.hid (O5.less HW3.out.size)
           clear O5 K5 BB))
      have q5 := KD.out w5 HW5.out
      have N5 := Lib.hid (XN.out w5 HW5.out)
      clear KD KI KQ KM KK KC XN HW3 PP p0 q0 e4 HE1 WI WQ WM vm q4
      go_wp2_with (first | (at_builtin
                            (refine wpList_app _ rfl (.tmp 47) (.tmp 49) _ rfl 5 i0 _ 1 Try.underlying24 I1.out I2.out I3.out I4.out rfl W.heap.size _ X1 rfl HO5.out w.heap.size _ n c xs rfl N5.out (by rw [LX1.out]; have := HNn.out; unfold maxLen; omega) (by rw [LX1.out]; have := HNn.out; omega) HW5.out.size ?_)
                            intro v6 w6 O hg
                            have B6 := Lib.hid (show Below W.heap.size W w6 from HW5.out.grown hg HW5.out.size fun q hq => (HO5.out.blk q hq).1)
                            have HO6 := Lib.hid O
                            clear hg O))
      go_ret
      rw [← EX2.out] at HO6
      obtain ⟨A6, c6, ev, -, -, -⟩ := HO6.out.form
      rw [EX2.out, List.length_append, LX1.out, HXL.out] at ev
      subst ev
      exact ⟨A6, c6, rfl, HO6.out.less SW.out, HB.out.trans (B6.out.mono SW.out)⟩
    · rw [if_neg (by rintro ⟨-, h⟩; cases h)] at hc
      subst hc
      have HE1 := Lib.hid HE1.symm
      clear h4
      go_upto_region 4 with fail
      clear p1
      go_upto_region 5 with (first
        | (go_at_call 39; (refine (TT.out _).mono ?_); rintro e w2 ⟨rfl, B2⟩
           have HW2 := Lib.hid (show Below W.heap.size W w2 from B2)
           clear B2))
      have HK0 := Lib.hid (show kdC.Key (w2.alloc (.cells #[.int .u8 ty, .int .u8 c7, .int .u8 (ck / 256), .int .u8 (ck % 256)] 5)) (some ⟨w2.heap.size, 0, none⟩) 4 4 [ty, c7, ck / 256, ck % 256] from ⟨pkC.row_nums .u8 (xs := [ty, c7, ck / 256, ck % 256]) (heap_alloc_new _ _) rfl 4 rfl, HT0.out, by decide, by decide⟩)
      have HW3 := Lib.hid (show Below W.heap.size W (w2.alloc (.cells #[.int .u8 ty, .int .u8 c7, .int .u8 (ck / 256), .int .u8 (ck % 256)] 5)) from HW2.out.trans ((alloc_below _ _).mono HW2.out.size))
      generalize w2.alloc (.cells #[.int .u8 ty, .int .u8 c7, .int .u8 (ck / 256), .int .u8 (ck % 256)] 5) = w3 at *
      generalize (some (⟨w2.heap.size, 0, none⟩ : Addr)) = A3 at *
      clear HW2 TT k0 k1 W1 W2 HT0
      have q4 := KM.out w3 HW3.out
      have vm := WM.out
      have PP := Lib.hid (rput_lit w3 HK0.out [mt] #[.int .u64 mt] 1 4 4 8 X1 rfl rfl rfl (by decide) (by decide) (by decide) HE1.out LX1.out)
      have q0 := KK.out w3 HW3.out
      unfold PutR at PP
      clear HK0
      go_upto_region 8 with (first
        | (go_at_call 43; (refine PP.out.mono ?_); rintro e w5 ⟨A5, c5, rfl, O5, K5, BB⟩
           have HW5 := Lib.hid (HW3.out.trans (BB.mono HW3.out.size))
           have HO5 := Lib.hid (O5.less HW3.out.size)
           clear O5 K5 BB))
      have q5 := KD.out w5 HW5.out
      have N5 := Lib.hid (XN.out w5 HW5.out)
      clear KD KI KQ KM KK KC XN HW3 PP p0 q0 e4 HE1 WI WQ WM vm q4
      go_wp2_with (first | (at_builtin
                            (refine wpList_app _ rfl (.tmp 47) (.tmp 49) _ rfl 5 i0 _ 1 Try.underlying24 I1.out I2.out I3.out I4.out rfl W.heap.size _ X1 rfl HO5.out w.heap.size _ n c xs rfl N5.out (by rw [LX1.out]; have := HNn.out; unfold maxLen; omega) (by rw [LX1.out]; have := HNn.out; omega) HW5.out.size ?_)
                            intro v6 w6 O hg
                            have B6 := Lib.hid (show Below W.heap.size W w6 from HW5.out.grown hg HW5.out.size fun q hq => (HO5.out.blk q hq).1)
                            have HO6 := Lib.hid O
                            clear hg O))
      go_ret
      rw [← EX2.out] at HO6
      obtain ⟨A6, c6, ev, -, -, -⟩ := HO6.out.form
      rw [EX2.out, List.length_append, LX1.out, HXL.out] at ev
      subst ev
      exact ⟨A6, c6, rfl, HO6.out.less SW.out, HB.out.trans (B6.out.mono SW.out)⟩
  · have e4 : ((k : Int) == 4) = false := beq_eq_false_iff_ne.2 h4
    have HE1 := HE0.out
    rw [if_neg h4] at HE1
    have hc := HCO.out
    clear HE0 HCO
    rw [if_neg (by rintro ⟨h, -⟩; exact h4 h)] at hc
    subst hc
    have HE1 := Lib.hid HE1.symm
    clear h4
    go_upto_region 4 with fail
    clear p1
    go_upto_region 5 with (first
      | (go_at_call 39; (refine (TT.out _).mono ?_); rintro e w2 ⟨rfl, B2⟩
         have HW2 := Lib.hid (show Below W.heap.size W w2 from B2)
         clear B2))
    have HK0 := Lib.hid (show kdC.Key (w2.alloc (.cells #[.int .u8 ty, .int .u8 c7, .int .u8 (ck / 256), .int .u8 (ck % 256)] 5)) (some ⟨w2.heap.size, 0, none⟩) 4 4 [ty, c7, ck / 256, ck % 256] from ⟨pkC.row_nums .u8 (xs := [ty, c7, ck / 256, ck % 256]) (heap_alloc_new _ _) rfl 4 rfl, HT0.out, by decide, by decide⟩)
    have HW3 := Lib.hid (show Below W.heap.size W (w2.alloc (.cells #[.int .u8 ty, .int .u8 c7, .int .u8 (ck / 256), .int .u8 (ck % 256)] 5)) from HW2.out.trans ((alloc_below _ _).mono HW2.out.size))
    generalize w2.alloc (.cells #[.int .u8 ty, .int .u8 c7, .int .u8 (ck / 256), .int .u8 (ck % 256)] 5) = w3 at *
    generalize (some (⟨w2.heap.size, 0, none⟩ : Addr)) = A3 at *
    clear HW2 TT k0 k1 W1 W2 HT0
    have q2 := KI.out w3 HW3.out
    have q3 := KQ.out w3 HW3.out
    have vi := WI.out
    have vq := WQ.out
    have PP := Lib.hid (rput_lit w3 HK0.out [id, sq] #[.int .u64 id, .int .u64 sq] 2 2 2 8 X1 rfl rfl rfl (by decide) (by decide) (by decide) HE1.out LX1.out)
    have q0 := KK.out w3 HW3.out
    unfold PutR at PP
    clear HK0
    go_upto_region 8 with (first
      | (go_at_call 43; (refine PP.out.mono ?_); rintro e w5 ⟨A5, c5, rfl, O5, K5, BB⟩
         have HW5 := Lib.hid (HW3.out.trans (BB.mono HW3.out.size))
         have HO5 := Lib.hid (O5.less HW3.out.size)
         clear O5 K5 BB))
    have q5 := KD.out w5 HW5.out
    have N5 := Lib.hid (XN.out w5 HW5.out)
    clear KD KI KQ KM KK KC XN HW3 PP p0 q0 e4 HE1 WI WQ WM vi vq q2 q3
    go_wp2_with (first | (at_builtin
                          (refine wpList_app _ rfl (.tmp 47) (.tmp 49) _ rfl 5 i0 _ 1 Try.underlying24 I1.out I2.out I3.out I4.out rfl W.heap.size _ X1 rfl HO5.out w.heap.size _ n c xs rfl N5.out (by rw [LX1.out]; have := HNn.out; unfold maxLen; omega) (by rw [LX1.out]; have := HNn.out; omega) HW5.out.size ?_)
                          intro v6 w6 O hg
                          have B6 := Lib.hid (show Below W.heap.size W w6 from HW5.out.grown hg HW5.out.size fun q hq => (HO5.out.blk q hq).1)
                          have HO6 := Lib.hid O
                          clear hg O))
    go_ret
    rw [← EX2.out] at HO6
    obtain ⟨A6, c6, ev, -, -, -⟩ := HO6.out.form
    rw [EX2.out, List.length_append, LX1.out, HXL.out] at ev
    subst ev
    exact ⟨A6, c6, rfl, HO6.out.less SW.out, HB.out.trans (B6.out.mono SW.out)⟩
end Go.Proofs.Ytmbfgolcinniiaa.icC

/-
  The sum of a message's bytes, and Lay: the document's.
-/
namespace Go.Proofs.Ytmbfgolcinniiaa.icC
open Go.ChangeShapes Go.WideShapes Go.ChangeAt Go.RowKit
open Go.Proofs.Ytmbfgolcinniiaa.memC Go.Proofs.Ytmbfgolcinniiaa.genC Go.Proofs.Ytmbfgolcinniiaa.butC Go.Proofs.Ytmbfgolcinniiaa.freeC Go.Proofs.Ytmbfgolcinniiaa.adC
open Go.Proofs.Ytmbfgolcinniiaa.chkC (PartAt Parts NumRet)
open Go.Proofs.Ytmbfgolcinniiaa.pkC (OwnE)
set_option linter.unusedVariables false
theorem xor_fullI {n : Nat} (h : n < 65536) : 65535 ^^^ n = 65535 - n := by
  have h1 := congrArg BitVec.toNat (BitVec.allOnes_xor (x := BitVec.ofNat 16 n))
  rw [BitVec.toNat_not, BitVec.toNat_xor, BitVec.toNat_allOnes, BitVec.toNat_ofNat, Nat.mod_eq_of_lt (show n < 2 ^ 16 by omega)] at h1
  simpa using h1
theorem not16I {c : Int} (h0 : 0 ≤ c) (h1 : c ≤ 65535) : bits .xor .u16 IntKind.u16.max c = 65535 - c := by
  have e : IntKind.u16.max = (65535 : Int) := rfl
  rw [e, Go.u16_xor 65535 c (by omega) (by omega) h0 (by omega)]
  have := xor_fullI (n := c.toNat) (by omega)
  have e2 : (65535 : Int).toNat = 65535 := rfl
  rw [e2, this]; omega
theorem addr_infoI : (Try.prog.info? 29).map (·.size) = some 17 := by kernel_rfl
theorem pastI {w w' : World} {p : chkC.Part} (h : PartAt w w.heap.size p) (b : Below w.heap.size w w') : PartAt w' w'.heap.size p := h.below b b.size
theorem parts1I {w : World} {A : Option Addr} {n c : Nat} {bs : List Int} (h : PartAt w w.heap.size ⟨A, n, c, bs⟩) (T : TypeId) :
    Parts (w.alloc (.cells #[.slice A n c] T)) (w.alloc (.cells #[.slice A n c] T)).heap.size (some ⟨w.heap.size, 0, none⟩) [⟨A, n, c, bs⟩] := by
  refine ⟨fun _ => ⟨_, 0, rfl, by rw [alloc_size]; exact Nat.lt_succ_self _, fun i hi => ?_⟩, fun p hp => ?_⟩
  · obtain rfl : i = 0 := by simpa using hi
    simp [go_sem]
  · obtain rfl := List.mem_singleton.1 hp
    exact h.alloc _
theorem rsum1_on {w w0 : World} {A : Option Addr} {n c : Nat} {bs : List Int} {f : Int} (B : Below w.heap.size w w0) (h : PartAt w0 w0.heap.size ⟨A, n, c, bs⟩) (hf : chkM.fo (chkM.wsum bs) = f) :
    Calls Try.prog 44 #[.slice (some ⟨w0.heap.size, 0, none⟩) 1 1] (w0.alloc (.cells #[.slice A n c] 24)) (NumRet w f) :=
  (chkC.sumref_any _ 1 1 _ _ (parts1I h 24) (by decide) rfl).mono fun e w' ⟨he, hw⟩ =>
    ⟨by rw [he]; exact chkC.ret_int (by rw [← hf]; exact congrArg chkM.fo (by simp [chkC.numsOf, chkM.psum])), by rw [← hw]; exact B.trans ((alloc_below w0 _).mono B.size)⟩
set_option maxRecDepth 100000 in
set_option maxHeartbeats 1000000 in
theorem rmsum_any (C1 C2 : Array Value) (s1 s2 : Bool) (b1 b2 : List Int) (A : Option Addr) (n c : Nat) (bs : List Int) (w : World) (h1 : chkC.AddrC C1 s1 b1) (h2 : chkC.AddrC C2 s2 b2) (hb : PartAt w w.heap.size ⟨A, n, c, bs⟩) :
    Calls Try.prog 31 #[.slice A n c, .agg C1, .agg C2] w (NumRet w (sumM s1 s2 b1 b2 bs)) := by
  have hn := hb.few
  simp only at hn
  have hl : bs.length = n := hb.nums.len
  have g1 := heap_alloc2_old w (.cells C1 29) (.cells C2 29)
  have g2 := heap_alloc2_new w (.cells C1 29) (.cells C2 29)
  have U1 := Lib.hid (show (Try.prog.info? 29).map (·.size) = some C1.size by rw [h1.size]; exact addr_infoI)
  have U2 := Lib.hid (show (Try.prog.info? 29).map (·.size) = some C2.size by rw [h2.size]; exact addr_infoI)
  have BW : Below w.heap.size w ((w.alloc (.cells C1 29)).alloc (.cells C2 29)) := ((Below.refl _ _).alloc (Nat.le_refl _) _).alloc (by simp) _
  obtain ⟨W, hW⟩ : ∃ W, W = (w.alloc (.cells C1 29)).alloc (.cells C2 29) := ⟨_, rfl⟩
  rw [← hW] at g1 g2 BW
  have G1 := Lib.hid g1; have G2 := Lib.hid g2
  have p0 := pkC.PkC.cell g1 h1.six
  have PP := Lib.hid (fun w => pseC.rpse_any h1 h2 (p := 58) (n := (n : Int)) (by decide) (by decide) (by omega) (by omega) w)
  have YT := pseC.pse_byte h1 h2 (p := 58) (n := (n : Int)) (by decide) (by decide) (by omega) (by omega)
  have HL := Lib.hid hl
  have HB := Lib.hid BW
  unfold sumM
  cases s1
  · rw [if_neg (by decide)]
    have HQ := Lib.hid (show chkM.fo (chkM.wsum bs) = chkM.fo (chkM.wsum bs) from rfl)
    have HP := Lib.hid (pastI hb BW)
    have S1 := Lib.hid (rsum1_on BW (pastI hb BW) rfl)
    generalize chkM.fo (chkM.wsum bs) = q at *
    clear g1 g2 PP YT h1 h2 hl
    go_enter Try.func31, Try.ntmps31
    go_upto_region 1 with fail
    rw [← hW]
    clear hW
    go_wp2_with (first
      | (go_at_call 44; ((with_reducible refine S1.out.mono ?_); rintro e w5 ⟨rfl, B5⟩)))
    go_ret
    exact ⟨rfl, B5⟩
  · rw [if_pos rfl, hl]
    have hN := pseC.pseN_le true s2
    generalize pseC.pseL true s2 b1 b2 58 (n : Int) = T at *
    generalize pseC.pseN true s2 = N at *
    obtain ⟨q, hq⟩ : ∃ q, q = chkM.fo (chkM.wsum T + chkM.wsum bs) := ⟨_, rfl⟩
    rw [← hq]
    have HQ := Lib.hid hq.symm
    clear g1 g2 h1 h2 hl hq
    go_enter Try.func31, Try.ntmps31
    go_upto_region 1 with fail
    rw [← hW]
    clear hW
    go_wp2_with (first
      | (refine wpList_load_row rfl 29 (.tmp 4) rfl w.heap.size rfl _ C1 _ _ G1.out Try.underlying29 rfl U1.out ?_)
      | (refine wpList_load_row rfl 29 (.tmp 5) rfl (w.heap.size + 1) rfl _ C2 _ _ G2.out Try.underlying29 rfl U2.out ?_)
      | (go_at_call 45; (refine (PP.out _).mono ?_)
         rintro e w3 ⟨A3, c3, rfl, g1, g2, O3, B3⟩
         have B4 : Below w.heap.size w w3 := BW.trans (B3.mono BW.size)
         have P3 : PartAt w3 w3.heap.size ⟨A3, N, c3, T⟩ := ⟨O3.nums, by show N ≤ 10000; omega, YT⟩)
      | (go_at_call 44; ((with_reducible refine (pseC.rsum2_on B4 P3 (pastI hb B4) HQ.out).mono ?_); rintro e w5 ⟨rfl, B5⟩)))
    go_ret
    exact ⟨rfl, B5⟩
def rlV (g1 g2 g3 : Nat) (C1 C2 CP : Array Value) (s1 : Bool) (sm ck : Int) (N : Nat) (X0 X1 : List Int) (base : Nat) : Nat → Value → World → Prop
  | 0, v, _ => v = .agg CP
  | 1, v, _ => v = .pointer (some ⟨g1, 0, none⟩)
  | 2, v, _ => v = .bool s1
  | 3, v, _ => v = .agg CP
  | 4, v, _ => v = .pointer (some ⟨g1, 0, none⟩)
  | 5, v, _ => v = .bool s1
  | 6, v, w => ∃ A' c', v = .slice A' N c' ∧ Own .u8 5 w base (.slice A' N c') X0
  | 7, v, _ => v = .agg C1
  | 8, v, _ => v = .agg C2
  | 9, v, _ => v = .int .u16 sm
  | 10, v, _ => v = .int .u16 ck
  | 11, v, w => ∃ A' c', v = .slice A' N c' ∧ Own .u8 5 w base (.slice A' N c') X1
  | 12, v, w => ∃ A' c', v = .slice A' N c' ∧ Own .u8 5 w base (.slice A' N c') X1
  | 13, v, _ => v = .int .i64 0
  | _, _, _ => True
theorem rlV.keep (g1 g2 g3 : Nat) (C1 C2 CP : Array Value) (s1 : Bool) (sm ck : Int) (N : Nat) (X0 X1 : List Int) (base : Nat) (i : Nat) (v : Value) (w w' : World) (hb : Below w.heap.size w w') (h : rlV g1 g2 g3 C1 C2 CP s1 sm ck N X0 X1 base i v w) : rlV g1 g2 g3 C1 C2 CP s1 sm ck N X0 X1 base i v w' := by
  by_cases e6 : i = 6
  · subst e6
    obtain ⟨A', c', h1, h2⟩ := h
    exact ⟨A', c', h1, h2.below hb⟩
  by_cases e11 : i = 11
  · subst e11
    obtain ⟨A', c', h1, h2⟩ := h
    exact ⟨A', c', h1, h2.below hb⟩
  by_cases e12 : i = 12
  · subst e12
    obtain ⟨A', c', h1, h2⟩ := h
    exact ⟨A', c', h1, h2.below hb⟩
  unfold rlV at h ⊢
  split at h <;> first | exact h | exact absurd rfl (by assumption)
def rlT : List (Option Nat) := [none, none, none, none, none, none, some 12, some 13, none, none, none, none, none, none, none, none, none, none, none, none, none, none, none, none, none, none, none, none, some 0, some 1, some 2, some 3, some 4, some 5, some 6, some 7, some 8, some 9, some 10, some 11]
set_option maxRecDepth 100000 in
set_option maxHeartbeats 4000000 in
theorem rlay_any (C1 C2 : Array Value) (s1 s2 : Bool) (b1 b2 : List Int) (m : Ms) (A : Option Addr) (n c : Nat) (xs : List Int) (w : World) (h1 : chkC.AddrC C1 s1 b1) (h2 : chkC.AddrC C2 s2 b2) (hm : m.Ok)
    (hx : Nums .u8 w w.heap.size A n xs) (hy : ∀ x ∈ xs, Byte x) :
    Calls Try.prog 12 #[.agg (msV m A n c), .agg C1, .agg C2] w (OwnE w (laysL s1 s2 b1 b2 m xs) (laysE m n s1)) := by
  have hxl := hx.len
  unfold laysL laysE
  rw [hxl]
  obtain ⟨W0, hW0⟩ : ∃ W, W = w.alloc (.cells (msV m A n c) 26) := ⟨_, rfl⟩
  obtain ⟨W1, hW1⟩ : ∃ W, W = W0.alloc (.cells C1 29) := ⟨_, rfl⟩
  obtain ⟨W, hW⟩ : ∃ W, W = W1.alloc (.cells C2 29) := ⟨_, rfl⟩
  have z0 : W0.heap.size = w.heap.size + 1 := by rw [hW0, alloc_size]
  have z1 : W1.heap.size = w.heap.size + 2 := by rw [hW1, alloc_size, z0]
  have z2 : W.heap.size = w.heap.size + 3 := by rw [hW, alloc_size, z1]
  have B0 : Below w.heap.size w W0 := by rw [hW0]; exact alloc_below _ _
  have B1 : Below W0.heap.size W0 W1 := by rw [hW1]; exact alloc_below _ _
  have B2 : Below W1.heap.size W1 W := by rw [hW]; exact alloc_below _ _
  have HB := Lib.hid (show Below w.heap.size w W from (B0.trans (B1.mono (by omega))).trans (B2.mono (by omega)))
  have r3 : W.heap[w.heap.size]? = some (.cells (msV m A n c) 26 (0, 0)) := by rw [B2.block _ (by omega), B1.block _ (by omega), hW0]; exact heap_alloc_new _ _
  have r1 : W.heap[w.heap.size + 1]? = some (.cells C1 29 (0, 0)) := by rw [B2.block _ (by omega), hW1, ← z0]; exact heap_alloc_new _ _
  have r2 : W.heap[w.heap.size + 2]? = some (.cells C2 29 (0, 0)) := by rw [hW, ← z1]; exact heap_alloc_new _ _
  have OC := msC m A n c
  have IC := Lib.hid OC.info
  have KR := Lib.hid (fun (w' : World) (h : Below W.heap.size W w') => (show w'.heap[w.heap.size]? = some (.cells (msV m A n c) 26 (0, 0)) by rw [h.block _ (by omega)]; exact r3))
  have KG1 := Lib.hid (fun (w' : World) (h : Below W.heap.size W w') => (show w'.heap[w.heap.size + 1]? = some (.cells C1 29 (0, 0)) by rw [h.block _ (by omega)]; exact r1))
  have KG2 := Lib.hid (fun (w' : World) (h : Below W.heap.size W w') => (show w'.heap[w.heap.size + 2]? = some (.cells C2 29 (0, 0)) by rw [h.block _ (by omega)]; exact r2))
  have IC1 := Lib.hid (show (Try.prog.info? 29).map (·.size) = some C1.size by rw [h1.size]; exact addr_infoI)
  have IC2 := Lib.hid (show (Try.prog.info? 29).map (·.size) = some C2.size by rw [h2.size]; exact addr_infoI)
  have Q6 := Lib.hid (fun (w' : World) (h : Below W.heap.size W w') => pkC.PkC.cell (KG1.out w' h) h1.six)
  have Q0 := Lib.hid (fun (w' : World) (h : Below W.heap.size W w') => pkC.PkC.cell (KR.out w' h) OC.ki)
  have Q1 := Lib.hid (fun (w' : World) (h : Below W.heap.size W w') => pkC.PkC.cell (KR.out w' h) OC.co)
  have p6 := Q6.out W (Below.refl _ _)
  have MC := Lib.hid (rmay_any m A n c s1 xs W ((hx.below HB.out).more HB.out.size) hy)
  have HWW := Lib.hid (Below.refl W.heap.size W)
  obtain ⟨my, hmy⟩ : ∃ my, mayM m n s1 = my := ⟨_, rfl⟩
  have hlm : layM m n s1 = (my && !(decide (m.ki = 3) && (decide (m.co = 4) && !s1))) := by unfold layM; rw [hmy]
  rw [hlm]
  rw [hmy] at MC
  cases my
  · rw [show (false && !(decide (m.ki = 3) && (decide (m.co = 4) && !s1))) = false from rfl, if_neg (by decide), if_neg (by decide)]
    generalize msV m A n c = CP at *
    clear h1 h2 hm hx hy hxl OC r1 r2 r3 hmy B0 B1 B2 z2 hlm Q0 Q1 Q6
    go_enter Try.func12, Try.ntmps12
    go_upto_region 1 with fail
    rw [← hW0, ← hW1, ← hW]
    try rw [z0]
    try rw [z1]
    clear hW0 hW1 hW z0 z1
    go_wp2_with (first
      | go_skip
      | (refine wpList_load_row rfl 26 (.tmp 3) rfl (w.heap.size) rfl _ _ _ _ (KR.out _ HWW.out) Try.underlying26 rfl IC.out ?_)
      | (go_at_call 14; (refine MC.out.mono ?_); rintro e Wr ⟨rfl, BB⟩
         have HW2 := Lib.hid BB
         clear BB))
    go_ret2
    exact ⟨none, 0, 0, rfl, Own.nil _ _, HB.out.trans (HW2.out.mono HB.out.size)⟩
  have hk : 1 ≤ m.ki ∧ m.ki ≤ 5 ∧ n ≤ 1400 := by
    unfold mayM at hmy; simp only [Bool.and_eq_true, decide_eq_true_eq] at hmy
    exact ⟨hmy.1, hmy.2.1, hmy.2.2.2.1⟩
  have hyb := bytesM_byte hm hy (six := s1) (ck := 0) (by decide) (by decide)
  have hsb := sumM_bd s1 s2 b1 b2 (bytesM m s1 xs 0)
  have hck : ckM s1 s2 b1 b2 m xs = 65535 - sumM s1 s2 b1 b2 (bytesM m s1 xs 0) := rfl
  have SG := fun (w' : World) (h : Below W.heap.size W w') => (HB.out.trans (h.mono HB.out.size))
  have BY := fun (ck : Int) (k0 : 0 ≤ ck) (k1 : ck ≤ 65535) (w' : World) (h : Below W.heap.size W w') => rbytes_any m A n c s1 xs ck w' hm hk.1 hk.2.1 ((hx.below (SG w' h)).more (SG w' h).size) (by omega) k0 k1
  have Y0 := Lib.hid (BY 0 (by decide) (by decide))
  have Y1 := Lib.hid (BY (ckM s1 s2 b1 b2 m xs) (by omega) (by omega))
  unfold OwnN at Y0 Y1
  obtain ⟨N, hN⟩ : ∃ N, N = 8 + n := ⟨_, rfl⟩
  rw [← hN] at Y0 Y1
  have SU0 := Lib.hid (fun (A' : Option Addr) (c' : Nat) (w' : World) (h : Nums .u8 w' w'.heap.size A' N (bytesM m s1 xs 0)) => rmsum_any C1 C2 s1 s2 b1 b2 A' N c' (bytesM m s1 xs 0) w' h1 h2 ⟨h, (show N ≤ 10000 by omega), hyb⟩)
  generalize bytesM m s1 xs (ckM s1 s2 b1 b2 m xs) = X1 at *
  generalize ckM s1 s2 b1 b2 m xs = ck at *
  generalize sumM s1 s2 b1 b2 (bytesM m s1 xs 0) = sm at *
  generalize bytesM m s1 xs 0 = X0 at *
  have NT0 := not16I hsb.1 hsb.2
  rw [← hck] at NT0
  have NT := Lib.hid NT0
  generalize msV m A n c = CP at *
  generalize m.ki = ki at *
  generalize m.co = co at *
  clear h1 h2 hm hx OC r1 r2 r3 hmy B0 B1 B2 z2 hk hyb hy hxl hN hck BY SG hsb hlm NT0
  by_cases e3 : ki = 3
  rotate_left
  · have d3 : (ki == 3) = false := beq_eq_false_iff_ne.2 e3
    rw [show (true && !(decide (ki = 3) && (decide (co = 4) && !s1))) = true by rw [decide_eq_false e3]; rfl]
    rw [if_pos rfl, if_pos rfl]
    clear e3
    go_enter Try.func12, Try.ntmps12
    go_upto_region 1 with fail
    rw [← hW0, ← hW1, ← hW]
    try rw [z0]
    try rw [z1]
    clear hW0 hW1 hW z0 z1
    go_upto_region 3 with (first
      | go_skip
      | (refine wpList_load_row rfl 26 (.tmp 3) rfl (w.heap.size) rfl _ _ _ _ (KR.out _ HWW.out) Try.underlying26 rfl IC.out ?_)
      | (go_at_call 14; (refine MC.out.mono ?_); rintro e Wr ⟨rfl, BB⟩
         have HW2 := Lib.hid BB
         have q6 := Q6.out Wr HW2.out
         have q0 := Q0.out Wr HW2.out
         have q1 := Q1.out Wr HW2.out
         clear BB))
    have HBr := Lib.hid (HB.out.trans (HW2.out.mono HB.out.size))
    have TG := Lib.hid (fun (w' : World) (h : Gr Wr w') => (show Below W.heap.size W w' from HW2.out.trans (Below.mono h HW2.out.size)))
    have K1 := Lib.hid (fun (w' : World) (h : Gr Wr w') => KG1.out w' (TG.out w' h))
    have K2 := Lib.hid (fun (w' : World) (h : Gr Wr w') => KG2.out w' (TG.out w' h))
    have K3 := Lib.hid (fun (w' : World) (h : Gr Wr w') => KR.out w' (TG.out w' h))
    have K6 := Lib.hid (fun (w' : World) (h : Gr Wr w') => Q6.out w' (TG.out w' h))
    have BY0 := Lib.hid (fun (w' : World) (h : Gr Wr w') => Y0.out w' (TG.out w' h))
    have BY1 := Lib.hid (fun (w' : World) (h : Gr Wr w') => Y1.out w' (TG.out w' h))
    have SU := SU0
    clear KG1 KG2 KR Y0 Y1 MC HWW SU0 HW2 HB TG p6 Q0 Q1 Q6 q6 q0 q1 d3
    refine with_act fun a0 ha0 => ?_
    have hl : rlT.length = a0.tmps.size := by rw [ha0]; rfl
    have k3 : a0.tmps[3]?.getD undef = .pointer (some ⟨(w.heap.size), 0, none⟩) := by rw [ha0]; rfl
    have k4 : a0.tmps[4]?.getD undef = .pointer (some ⟨(w.heap.size + 1), 0, none⟩) := by rw [ha0]; rfl
    have k5 : a0.tmps[5]?.getD undef = .pointer (some ⟨(w.heap.size + 2), 0, none⟩) := by rw [ha0]; rfl
    refine wp_region_vals (by kernel_rfl) rlT (by kernel_rfl) (by kernel_rfl) hl (fun i => if i = 12 then .slice none 0 0 else if i = 13 then .int .i64 0 else undef) (by rw [ha0]; rfl) (Gr Wr) (rlV (w.heap.size + 1) (w.heap.size + 2) (w.heap.size) C1 C2 CP s1 sm ck N X0 X1 (Wr.heap.size)) (show Gr _ _ from (Below.refl _ _).drew) (rlV.keep _ _ _ _ _ _ _ _ _ _ _ _ _) ⟨?_, ?_, ?_, ?_, ?_, ?_, ?_, ?_, ?_, ?_, ?_, ?_, ?_, ?_, trivial⟩ ?_
    · refine step_plain [] (by kernel_rfl) rfl fun us w' hG hV => ?_
      have o3 := (frame_old2 (us := us) (a := a0) (show (rlT[3]?).join = none from rfl)).trans k3
      have hg1 := (K3.out w' hG)
      generalize frame rlT a0 us = fr at *
      exact load_ok 26 3 rfl ((w.heap.size)) o3 _ _ (0, 0) _ hg1 Try.underlying26 rfl IC.out hG rfl
    · refine step_plain [] (by kernel_rfl) rfl fun us w' hG hV => ?_
      have o4 := (frame_old2 (us := us) (a := a0) (show (rlT[4]?).join = none from rfl)).trans k4
      generalize frame rlT a0 us = fr at *
      exact val_ok (v := .pointer (some ⟨(w.heap.size + 1), 0, none⟩)) (w' := w') (by go_simp) hG (Below.refl _ _) rfl
    · refine step_plain [1] (by kernel_rfl) rfl fun us w' hG hV => ?_
      have e1 : us 1 = .pointer (some ⟨(w.heap.size + 1), 0, none⟩) := hV 1 (by simp)
      have v1 := (frame_at2 (us := us) hl (show (rlT[29]?).join = some 1 from rfl)).trans e1
      have hc := K6.out w' hG
      generalize frame rlT a0 us = fr at *
      exact val_ok (v := .bool s1) (w' := w') (by go_simp) hG (Below.refl _ _) rfl
    · refine step_plain [] (by kernel_rfl) rfl fun us w' hG hV => ?_
      have o3 := (frame_old2 (us := us) (a := a0) (show (rlT[3]?).join = none from rfl)).trans k3
      have hg1 := (K3.out w' hG)
      generalize frame rlT a0 us = fr at *
      exact load_ok 26 3 rfl ((w.heap.size)) o3 _ _ (0, 0) _ hg1 Try.underlying26 rfl IC.out hG rfl
    · refine step_plain [] (by kernel_rfl) rfl fun us w' hG hV => ?_
      have o4 := (frame_old2 (us := us) (a := a0) (show (rlT[4]?).join = none from rfl)).trans k4
      generalize frame rlT a0 us = fr at *
      exact val_ok (v := .pointer (some ⟨(w.heap.size + 1), 0, none⟩)) (w' := w') (by go_simp) hG (Below.refl _ _) rfl
    · refine step_plain [4] (by kernel_rfl) rfl fun us w' hG hV => ?_
      have e4 : us 4 = .pointer (some ⟨(w.heap.size + 1), 0, none⟩) := hV 4 (by simp)
      have v4 := (frame_at2 (us := us) hl (show (rlT[32]?).join = some 4 from rfl)).trans e4
      have hc := K6.out w' hG
      generalize frame rlT a0 us = fr at *
      exact val_ok (v := .bool s1) (w' := w') (by go_simp) hG (Below.refl _ _) rfl
    · refine step_plain [3, 5] (by kernel_rfl) rfl fun us w' hG hV => ?_
      have e3 : us 3 = .agg CP := hV 3 (by simp)
      have v3 := (frame_at2 (us := us) hl (show (rlT[31]?).join = some 3 from rfl)).trans e3
      have e5 : us 5 = .bool s1 := hV 5 (by simp)
      have v5 := (frame_at2 (us := us) hl (show (rlT[33]?).join = some 5 from rfl)).trans e5
      generalize frame rlT a0 us = fr at *
      exact call_ok (f := 30) (args := #[.agg CP, .bool s1, .int .u16 0]) (by go_simp) ((BY0.out w' hG).mono fun e w'' ⟨A', c', h1, h2, h3⟩ => ⟨_, h1, hG.below h3, h3, A', c', rfl, h2.less hG.size⟩)
    · refine step_plain [] (by kernel_rfl) rfl fun us w' hG hV => ?_
      have o4 := (frame_old2 (us := us) (a := a0) (show (rlT[4]?).join = none from rfl)).trans k4
      have hg1 := (K1.out w' hG)
      generalize frame rlT a0 us = fr at *
      exact load_ok 29 4 rfl ((w.heap.size + 1)) o4 _ _ (0, 0) _ hg1 Try.underlying29 rfl IC1.out hG rfl
    · refine step_plain [] (by kernel_rfl) rfl fun us w' hG hV => ?_
      have o5 := (frame_old2 (us := us) (a := a0) (show (rlT[5]?).join = none from rfl)).trans k5
      have hg1 := (K2.out w' hG)
      generalize frame rlT a0 us = fr at *
      exact load_ok 29 5 rfl ((w.heap.size + 2)) o5 _ _ (0, 0) _ hg1 Try.underlying29 rfl IC2.out hG rfl
    · refine step_plain [6, 7, 8] (by kernel_rfl) rfl fun us w' hG hV => ?_
      obtain ⟨A6, c6, e6, O6⟩ := (show ∃ A' c', us 6 = .slice A' N c' ∧ Own .u8 5 w' (Wr.heap.size) (.slice A' N c') X0 from hV 6 (by simp))
      have v6 := (frame_at2 (us := us) hl (show (rlT[34]?).join = some 6 from rfl)).trans e6
      have e7 : us 7 = .agg C1 := hV 7 (by simp)
      have v7 := (frame_at2 (us := us) hl (show (rlT[35]?).join = some 7 from rfl)).trans e7
      have e8 : us 8 = .agg C2 := hV 8 (by simp)
      have v8 := (frame_at2 (us := us) hl (show (rlT[36]?).join = some 8 from rfl)).trans e8
      generalize frame rlT a0 us = fr at *
      exact call_ok (f := 31) (args := #[.slice A6 N c6, .agg C1, .agg C2]) (by go_simp) ((SU.out A6 c6 w' O6.nums).mono fun e w'' h => ⟨_, h.1, hG.below h.2, h.2, rfl⟩)
    · refine step_plain [9] (by kernel_rfl) rfl fun us w' hG hV => ?_
      have e9 : us 9 = .int .u16 sm := hV 9 (by simp)
      have v9 := (frame_at2 (us := us) hl (show (rlT[37]?).join = some 9 from rfl)).trans e9
      have q := NT.out
      generalize frame rlT a0 us = fr at *
      exact val_ok (v := .int .u16 ck) (w' := w') (by first | (go_simp; done) | (go_simp; exact q)) hG (Below.refl _ _) rfl
    · refine step_plain [0, 2, 10] (by kernel_rfl) rfl fun us w' hG hV => ?_
      have e0 : us 0 = .agg CP := hV 0 (by simp)
      have v0 := (frame_at2 (us := us) hl (show (rlT[28]?).join = some 0 from rfl)).trans e0
      have e2 : us 2 = .bool s1 := hV 2 (by simp)
      have v2 := (frame_at2 (us := us) hl (show (rlT[30]?).join = some 2 from rfl)).trans e2
      have e10 : us 10 = .int .u16 ck := hV 10 (by simp)
      have v10 := (frame_at2 (us := us) hl (show (rlT[38]?).join = some 10 from rfl)).trans e10
      generalize frame rlT a0 us = fr at *
      exact call_ok (f := 30) (args := #[.agg CP, .bool s1, .int .u16 ck]) (by go_simp) ((BY1.out w' hG).mono fun e w'' ⟨A', c', h1, h2, h3⟩ => ⟨_, h1, hG.below h3, h3, A', c', rfl, h2.less hG.size⟩)
    · refine step_plain [11] (by kernel_rfl) rfl fun us w' hG hV => ?_
      obtain ⟨A11, c11, e11, O11⟩ := (show ∃ A' c', us 11 = .slice A' N c' ∧ Own .u8 5 w' (Wr.heap.size) (.slice A' N c') X1 from hV 11 (by simp))
      have v11 := (frame_at2 (us := us) hl (show (rlT[39]?).join = some 11 from rfl)).trans e11
      generalize frame rlT a0 us = fr at *
      exact val_ok (v := .slice A11 N c11) (w' := w') (by go_simp) hG (Below.refl _ _) ⟨A11, c11, rfl, O11⟩
    · refine step_plain [] (by kernel_rfl) rfl fun us w' hG hV => ?_
      generalize frame rlT a0 us = fr at *
      exact val_ok (v := .int .i64 0) (w' := w') (by go_simp) hG (Below.refl _ _) rfl
    · intro us w5 hG hV
      obtain ⟨A7, c7, e7, O7⟩ := (show ∃ A' c', us 12 = .slice A' N c' ∧ Own .u8 5 w5 (Wr.heap.size) (.slice A' N c') X1 from hV 12 (by decide))
      have e8 : us 13 = .int .i64 0 := hV 13 (by decide)
      subst ha0
      simp only [frame, rlT, fill]
      rw [e7, e8]
      have HG5 := Lib.hid hG
      have HO7 := Lib.hid O7
      clear hV hl hG k3 k4 k5 e7 e8 O7
      go_wp2_with fail
      go_ret2
      exact ⟨A7, N, c7, rfl, HO7.out.less HBr.out.size, HBr.out.trans (Below.mono HG5.out HBr.out.size)⟩
  have d3 : (ki == 3) = true := beq_iff_eq.2 e3
  by_cases e4 : co = 4
  rotate_left
  · have d4 : (co == 4) = false := beq_eq_false_iff_ne.2 e4
    rw [show (true && !(decide (ki = 3) && (decide (co = 4) && !s1))) = true by rw [decide_eq_false e4, Bool.false_and, Bool.and_false]; rfl]
    rw [if_pos rfl, if_pos rfl]
    clear e3 e4
    go_enter Try.func12, Try.ntmps12
    go_upto_region 1 with fail
    rw [← hW0, ← hW1, ← hW]
    try rw [z0]
    try rw [z1]
    clear hW0 hW1 hW z0 z1
    go_upto_region 3 with (first
      | go_skip
      | (refine wpList_load_row rfl 26 (.tmp 3) rfl (w.heap.size) rfl _ _ _ _ (KR.out _ HWW.out) Try.underlying26 rfl IC.out ?_)
      | (go_at_call 14; (refine MC.out.mono ?_); rintro e Wr ⟨rfl, BB⟩
         have HW2 := Lib.hid BB
         have q6 := Q6.out Wr HW2.out
         have q0 := Q0.out Wr HW2.out
         have q1 := Q1.out Wr HW2.out
         clear BB))
    have HBr := Lib.hid (HB.out.trans (HW2.out.mono HB.out.size))
    have TG := Lib.hid (fun (w' : World) (h : Gr Wr w') => (show Below W.heap.size W w' from HW2.out.trans (Below.mono h HW2.out.size)))
    have K1 := Lib.hid (fun (w' : World) (h : Gr Wr w') => KG1.out w' (TG.out w' h))
    have K2 := Lib.hid (fun (w' : World) (h : Gr Wr w') => KG2.out w' (TG.out w' h))
    have K3 := Lib.hid (fun (w' : World) (h : Gr Wr w') => KR.out w' (TG.out w' h))
    have K6 := Lib.hid (fun (w' : World) (h : Gr Wr w') => Q6.out w' (TG.out w' h))
    have BY0 := Lib.hid (fun (w' : World) (h : Gr Wr w') => Y0.out w' (TG.out w' h))
    have BY1 := Lib.hid (fun (w' : World) (h : Gr Wr w') => Y1.out w' (TG.out w' h))
    have SU := SU0
    clear KG1 KG2 KR Y0 Y1 MC HWW SU0 HW2 HB TG p6 Q0 Q1 Q6 q6 q0 q1 d3 d4
    refine with_act fun a0 ha0 => ?_
    have hl : rlT.length = a0.tmps.size := by rw [ha0]; rfl
    have k3 : a0.tmps[3]?.getD undef = .pointer (some ⟨(w.heap.size), 0, none⟩) := by rw [ha0]; rfl
    have k4 : a0.tmps[4]?.getD undef = .pointer (some ⟨(w.heap.size + 1), 0, none⟩) := by rw [ha0]; rfl
    have k5 : a0.tmps[5]?.getD undef = .pointer (some ⟨(w.heap.size + 2), 0, none⟩) := by rw [ha0]; rfl
    refine wp_region_vals (by kernel_rfl) rlT (by kernel_rfl) (by kernel_rfl) hl (fun i => if i = 12 then .slice none 0 0 else if i = 13 then .int .i64 0 else undef) (by rw [ha0]; rfl) (Gr Wr) (rlV (w.heap.size + 1) (w.heap.size + 2) (w.heap.size) C1 C2 CP s1 sm ck N X0 X1 (Wr.heap.size)) (show Gr _ _ from (Below.refl _ _).drew) (rlV.keep _ _ _ _ _ _ _ _ _ _ _ _ _) ⟨?_, ?_, ?_, ?_, ?_, ?_, ?_, ?_, ?_, ?_, ?_, ?_, ?_, ?_, trivial⟩ ?_
    · refine step_plain [] (by kernel_rfl) rfl fun us w' hG hV => ?_
      have o3 := (frame_old2 (us := us) (a := a0) (show (rlT[3]?).join = none from rfl)).trans k3
      have hg1 := (K3.out w' hG)
      generalize frame rlT a0 us = fr at *
      exact load_ok 26 3 rfl ((w.heap.size)) o3 _ _ (0, 0) _ hg1 Try.underlying26 rfl IC.out hG rfl
    · refine step_plain [] (by kernel_rfl) rfl fun us w' hG hV => ?_
      have o4 := (frame_old2 (us := us) (a := a0) (show (rlT[4]?).join = none from rfl)).trans k4
      generalize frame rlT a0 us = fr at *
      exact val_ok (v := .pointer (some ⟨(w.heap.size + 1), 0, none⟩)) (w' := w') (by go_simp) hG (Below.refl _ _) rfl
    · refine step_plain [1] (by kernel_rfl) rfl fun us w' hG hV => ?_
      have e1 : us 1 = .pointer (some ⟨(w.heap.size + 1), 0, none⟩) := hV 1 (by simp)
      have v1 := (frame_at2 (us := us) hl (show (rlT[29]?).join = some 1 from rfl)).trans e1
      have hc := K6.out w' hG
      generalize frame rlT a0 us = fr at *
      exact val_ok (v := .bool s1) (w' := w') (by go_simp) hG (Below.refl _ _) rfl
    · refine step_plain [] (by kernel_rfl) rfl fun us w' hG hV => ?_
      have o3 := (frame_old2 (us := us) (a := a0) (show (rlT[3]?).join = none from rfl)).trans k3
      have hg1 := (K3.out w' hG)
      generalize frame rlT a0 us = fr at *
      exact load_ok 26 3 rfl ((w.heap.size)) o3 _ _ (0, 0) _ hg1 Try.underlying26 rfl IC.out hG rfl
    · refine step_plain [] (by kernel_rfl) rfl fun us w' hG hV => ?_
      have o4 := (frame_old2 (us := us) (a := a0) (show (rlT[4]?).join = none from rfl)).trans k4
      generalize frame rlT a0 us = fr at *
      exact val_ok (v := .pointer (some ⟨(w.heap.size + 1), 0, none⟩)) (w' := w') (by go_simp) hG (Below.refl _ _) rfl
    · refine step_plain [4] (by kernel_rfl) rfl fun us w' hG hV => ?_
      have e4 : us 4 = .pointer (some ⟨(w.heap.size + 1), 0, none⟩) := hV 4 (by simp)
      have v4 := (frame_at2 (us := us) hl (show (rlT[32]?).join = some 4 from rfl)).trans e4
      have hc := K6.out w' hG
      generalize frame rlT a0 us = fr at *
      exact val_ok (v := .bool s1) (w' := w') (by go_simp) hG (Below.refl _ _) rfl
    · refine step_plain [3, 5] (by kernel_rfl) rfl fun us w' hG hV => ?_
      have e3 : us 3 = .agg CP := hV 3 (by simp)
      have v3 := (frame_at2 (us := us) hl (show (rlT[31]?).join = some 3 from rfl)).trans e3
      have e5 : us 5 = .bool s1 := hV 5 (by simp)
      have v5 := (frame_at2 (us := us) hl (show (rlT[33]?).join = some 5 from rfl)).trans e5
      generalize frame rlT a0 us = fr at *
      exact call_ok (f := 30) (args := #[.agg CP, .bool s1, .int .u16 0]) (by go_simp) ((BY0.out w' hG).mono fun e w'' ⟨A', c', h1, h2, h3⟩ => ⟨_, h1, hG.below h3, h3, A', c', rfl, h2.less hG.size⟩)
    · refine step_plain [] (by kernel_rfl) rfl fun us w' hG hV => ?_
      have o4 := (frame_old2 (us := us) (a := a0) (show (rlT[4]?).join = none from rfl)).trans k4
      have hg1 := (K1.out w' hG)
      generalize frame rlT a0 us = fr at *
      exact load_ok 29 4 rfl ((w.heap.size + 1)) o4 _ _ (0, 0) _ hg1 Try.underlying29 rfl IC1.out hG rfl
    · refine step_plain [] (by kernel_rfl) rfl fun us w' hG hV => ?_
      have o5 := (frame_old2 (us := us) (a := a0) (show (rlT[5]?).join = none from rfl)).trans k5
      have hg1 := (K2.out w' hG)
      generalize frame rlT a0 us = fr at *
      exact load_ok 29 5 rfl ((w.heap.size + 2)) o5 _ _ (0, 0) _ hg1 Try.underlying29 rfl IC2.out hG rfl
    · refine step_plain [6, 7, 8] (by kernel_rfl) rfl fun us w' hG hV => ?_
      obtain ⟨A6, c6, e6, O6⟩ := (show ∃ A' c', us 6 = .slice A' N c' ∧ Own .u8 5 w' (Wr.heap.size) (.slice A' N c') X0 from hV 6 (by simp))
      have v6 := (frame_at2 (us := us) hl (show (rlT[34]?).join = some 6 from rfl)).trans e6
      have e7 : us 7 = .agg C1 := hV 7 (by simp)
      have v7 := (frame_at2 (us := us) hl (show (rlT[35]?).join = some 7 from rfl)).trans e7
      have e8 : us 8 = .agg C2 := hV 8 (by simp)
      have v8 := (frame_at2 (us := us) hl (show (rlT[36]?).join = some 8 from rfl)).trans e8
      generalize frame rlT a0 us = fr at *
      exact call_ok (f := 31) (args := #[.slice A6 N c6, .agg C1, .agg C2]) (by go_simp) ((SU.out A6 c6 w' O6.nums).mono fun e w'' h => ⟨_, h.1, hG.below h.2, h.2, rfl⟩)
    · refine step_plain [9] (by kernel_rfl) rfl fun us w' hG hV => ?_
      have e9 : us 9 = .int .u16 sm := hV 9 (by simp)
      have v9 := (frame_at2 (us := us) hl (show (rlT[37]?).join = some 9 from rfl)).trans e9
      have q := NT.out
      generalize frame rlT a0 us = fr at *
      exact val_ok (v := .int .u16 ck) (w' := w') (by first | (go_simp; done) | (go_simp; exact q)) hG (Below.refl _ _) rfl
    · refine step_plain [0, 2, 10] (by kernel_rfl) rfl fun us w' hG hV => ?_
      have e0 : us 0 = .agg CP := hV 0 (by simp)
      have v0 := (frame_at2 (us := us) hl (show (rlT[28]?).join = some 0 from rfl)).trans e0
      have e2 : us 2 = .bool s1 := hV 2 (by simp)
      have v2 := (frame_at2 (us := us) hl (show (rlT[30]?).join = some 2 from rfl)).trans e2
      have e10 : us 10 = .int .u16 ck := hV 10 (by simp)
      have v10 := (frame_at2 (us := us) hl (show (rlT[38]?).join = some 10 from rfl)).trans e10
      generalize frame rlT a0 us = fr at *
      exact call_ok (f := 30) (args := #[.agg CP, .bool s1, .int .u16 ck]) (by go_simp) ((BY1.out w' hG).mono fun e w'' ⟨A', c', h1, h2, h3⟩ => ⟨_, h1, hG.below h3, h3, A', c', rfl, h2.less hG.size⟩)
    · refine step_plain [11] (by kernel_rfl) rfl fun us w' hG hV => ?_
      obtain ⟨A11, c11, e11, O11⟩ := (show ∃ A' c', us 11 = .slice A' N c' ∧ Own .u8 5 w' (Wr.heap.size) (.slice A' N c') X1 from hV 11 (by simp))
      have v11 := (frame_at2 (us := us) hl (show (rlT[39]?).join = some 11 from rfl)).trans e11
      generalize frame rlT a0 us = fr at *
      exact val_ok (v := .slice A11 N c11) (w' := w') (by go_simp) hG (Below.refl _ _) ⟨A11, c11, rfl, O11⟩
    · refine step_plain [] (by kernel_rfl) rfl fun us w' hG hV => ?_
      generalize frame rlT a0 us = fr at *
      exact val_ok (v := .int .i64 0) (w' := w') (by go_simp) hG (Below.refl _ _) rfl
    · intro us w5 hG hV
      obtain ⟨A7, c7, e7, O7⟩ := (show ∃ A' c', us 12 = .slice A' N c' ∧ Own .u8 5 w5 (Wr.heap.size) (.slice A' N c') X1 from hV 12 (by decide))
      have e8 : us 13 = .int .i64 0 := hV 13 (by decide)
      subst ha0
      simp only [frame, rlT, fill]
      rw [e7, e8]
      have HG5 := Lib.hid hG
      have HO7 := Lib.hid O7
      clear hV hl hG k3 k4 k5 e7 e8 O7
      go_wp2_with fail
      go_ret2
      exact ⟨A7, N, c7, rfl, HO7.out.less HBr.out.size, HBr.out.trans (Below.mono HG5.out HBr.out.size)⟩
  have d4 : (co == 4) = true := beq_iff_eq.2 e4
  cases s1
  · rw [show (true && !(decide (ki = 3) && (decide (co = 4) && !false))) = false by rw [decide_eq_true e3, decide_eq_true e4]; rfl]
    rw [if_neg (by decide), if_neg (by decide)]
    clear e3 e4
    go_enter Try.func12, Try.ntmps12
    go_upto_region 1 with fail
    rw [← hW0, ← hW1, ← hW]
    try rw [z0]
    try rw [z1]
    clear hW0 hW1 hW z0 z1
    go_wp2_with (first
      | go_skip
      | (refine wpList_load_row rfl 26 (.tmp 3) rfl (w.heap.size) rfl _ _ _ _ (KR.out _ HWW.out) Try.underlying26 rfl IC.out ?_)
      | (go_at_call 14; (refine MC.out.mono ?_); rintro e Wr ⟨rfl, BB⟩
         have HW2 := Lib.hid BB
         have q6 := Q6.out Wr HW2.out
         have q0 := Q0.out Wr HW2.out
         have q1 := Q1.out Wr HW2.out
         clear BB))
    go_ret2
    exact ⟨none, 0, 0, rfl, Own.nil _ _, HB.out.trans (HW2.out.mono HB.out.size)⟩
  · rw [show (true && !(decide (ki = 3) && (decide (co = 4) && !true))) = true by rw [decide_eq_true e3, decide_eq_true e4]; rfl]
    rw [if_pos rfl, if_pos rfl]
    clear e3 e4
    go_enter Try.func12, Try.ntmps12
    go_upto_region 1 with fail
    rw [← hW0, ← hW1, ← hW]
    try rw [z0]
    try rw [z1]
    clear hW0 hW1 hW z0 z1
    go_upto_region 3 with (first
      | go_skip
      | (refine wpList_load_row rfl 26 (.tmp 3) rfl (w.heap.size) rfl _ _ _ _ (KR.out _ HWW.out) Try.underlying26 rfl IC.out ?_)
      | (go_at_call 14; (refine MC.out.mono ?_); rintro e Wr ⟨rfl, BB⟩
         have HW2 := Lib.hid BB
         have q6 := Q6.out Wr HW2.out
         have q0 := Q0.out Wr HW2.out
         have q1 := Q1.out Wr HW2.out
         clear BB))
    have HBr := Lib.hid (HB.out.trans (HW2.out.mono HB.out.size))
    have TG := Lib.hid (fun (w' : World) (h : Gr Wr w') => (show Below W.heap.size W w' from HW2.out.trans (Below.mono h HW2.out.size)))
    have K1 := Lib.hid (fun (w' : World) (h : Gr Wr w') => KG1.out w' (TG.out w' h))
    have K2 := Lib.hid (fun (w' : World) (h : Gr Wr w') => KG2.out w' (TG.out w' h))
    have K3 := Lib.hid (fun (w' : World) (h : Gr Wr w') => KR.out w' (TG.out w' h))
    have K6 := Lib.hid (fun (w' : World) (h : Gr Wr w') => Q6.out w' (TG.out w' h))
    have BY0 := Lib.hid (fun (w' : World) (h : Gr Wr w') => Y0.out w' (TG.out w' h))
    have BY1 := Lib.hid (fun (w' : World) (h : Gr Wr w') => Y1.out w' (TG.out w' h))
    have SU := SU0
    clear KG1 KG2 KR Y0 Y1 MC HWW SU0 HW2 HB TG p6 Q0 Q1 Q6 q6 q0 q1 d3 d4
    refine with_act fun a0 ha0 => ?_
    have hl : rlT.length = a0.tmps.size := by rw [ha0]; rfl
    have k3 : a0.tmps[3]?.getD undef = .pointer (some ⟨(w.heap.size), 0, none⟩) := by rw [ha0]; rfl
    have k4 : a0.tmps[4]?.getD undef = .pointer (some ⟨(w.heap.size + 1), 0, none⟩) := by rw [ha0]; rfl
    have k5 : a0.tmps[5]?.getD undef = .pointer (some ⟨(w.heap.size + 2), 0, none⟩) := by rw [ha0]; rfl
    refine wp_region_vals (by kernel_rfl) rlT (by kernel_rfl) (by kernel_rfl) hl (fun i => if i = 12 then .slice none 0 0 else if i = 13 then .int .i64 0 else undef) (by rw [ha0]; rfl) (Gr Wr) (rlV (w.heap.size + 1) (w.heap.size + 2) (w.heap.size) C1 C2 CP true sm ck N X0 X1 (Wr.heap.size)) (show Gr _ _ from (Below.refl _ _).drew) (rlV.keep _ _ _ _ _ _ _ _ _ _ _ _ _) ⟨?_, ?_, ?_, ?_, ?_, ?_, ?_, ?_, ?_, ?_, ?_, ?_, ?_, ?_, trivial⟩ ?_
    · refine step_plain [] (by kernel_rfl) rfl fun us w' hG hV => ?_
      have o3 := (frame_old2 (us := us) (a := a0) (show (rlT[3]?).join = none from rfl)).trans k3
      have hg1 := (K3.out w' hG)
      generalize frame rlT a0 us = fr at *
      exact load_ok 26 3 rfl ((w.heap.size)) o3 _ _ (0, 0) _ hg1 Try.underlying26 rfl IC.out hG rfl
    · refine step_plain [] (by kernel_rfl) rfl fun us w' hG hV => ?_
      have o4 := (frame_old2 (us := us) (a := a0) (show (rlT[4]?).join = none from rfl)).trans k4
      generalize frame rlT a0 us = fr at *
      exact val_ok (v := .pointer (some ⟨(w.heap.size + 1), 0, none⟩)) (w' := w') (by go_simp) hG (Below.refl _ _) rfl
    · refine step_plain [1] (by kernel_rfl) rfl fun us w' hG hV => ?_
      have e1 : us 1 = .pointer (some ⟨(w.heap.size + 1), 0, none⟩) := hV 1 (by simp)
      have v1 := (frame_at2 (us := us) hl (show (rlT[29]?).join = some 1 from rfl)).trans e1
      have hc := K6.out w' hG
      generalize frame rlT a0 us = fr at *
      exact val_ok (v := .bool true) (w' := w') (by go_simp) hG (Below.refl _ _) rfl
    · refine step_plain [] (by kernel_rfl) rfl fun us w' hG hV => ?_
      have o3 := (frame_old2 (us := us) (a := a0) (show (rlT[3]?).join = none from rfl)).trans k3
      have hg1 := (K3.out w' hG)
      generalize frame rlT a0 us = fr at *
      exact load_ok 26 3 rfl ((w.heap.size)) o3 _ _ (0, 0) _ hg1 Try.underlying26 rfl IC.out hG rfl
    · refine step_plain [] (by kernel_rfl) rfl fun us w' hG hV => ?_
      have o4 := (frame_old2 (us := us) (a := a0) (show (rlT[4]?).join = none from rfl)).trans k4
      generalize frame rlT a0 us = fr at *
      exact val_ok (v := .pointer (some ⟨(w.heap.size + 1), 0, none⟩)) (w' := w') (by go_simp) hG (Below.refl _ _) rfl
    · refine step_plain [4] (by kernel_rfl) rfl fun us w' hG hV => ?_
      have e4 : us 4 = .pointer (some ⟨(w.heap.size + 1), 0, none⟩) := hV 4 (by simp)
      have v4 := (frame_at2 (us := us) hl (show (rlT[32]?).join = some 4 from rfl)).trans e4
      have hc := K6.out w' hG
      generalize frame rlT a0 us = fr at *
      exact val_ok (v := .bool true) (w' := w') (by go_simp) hG (Below.refl _ _) rfl
    · refine step_plain [3, 5] (by kernel_rfl) rfl fun us w' hG hV => ?_
      have e3 : us 3 = .agg CP := hV 3 (by simp)
      have v3 := (frame_at2 (us := us) hl (show (rlT[31]?).join = some 3 from rfl)).trans e3
      have e5 : us 5 = .bool true := hV 5 (by simp)
      have v5 := (frame_at2 (us := us) hl (show (rlT[33]?).join = some 5 from rfl)).trans e5
      generalize frame rlT a0 us = fr at *
      exact call_ok (f := 30) (args := #[.agg CP, .bool true, .int .u16 0]) (by go_simp) ((BY0.out w' hG).mono fun e w'' ⟨A', c', h1, h2, h3⟩ => ⟨_, h1, hG.below h3, h3, A', c', rfl, h2.less hG.size⟩)
    · refine step_plain [] (by kernel_rfl) rfl fun us w' hG hV => ?_
      have o4 := (frame_old2 (us := us) (a := a0) (show (rlT[4]?).join = none from rfl)).trans k4
      have hg1 := (K1.out w' hG)
      generalize frame rlT a0 us = fr at *
      exact load_ok 29 4 rfl ((w.heap.size + 1)) o4 _ _ (0, 0) _ hg1 Try.underlying29 rfl IC1.out hG rfl
    · refine step_plain [] (by kernel_rfl) rfl fun us w' hG hV => ?_
      have o5 := (frame_old2 (us := us) (a := a0) (show (rlT[5]?).join = none from rfl)).trans k5
      have hg1 := (K2.out w' hG)
      generalize frame rlT a0 us = fr at *
      exact load_ok 29 5 rfl ((w.heap.size + 2)) o5 _ _ (0, 0) _ hg1 Try.underlying29 rfl IC2.out hG rfl
    · refine step_plain [6, 7, 8] (by kernel_rfl) rfl fun us w' hG hV => ?_
      obtain ⟨A6, c6, e6, O6⟩ := (show ∃ A' c', us 6 = .slice A' N c' ∧ Own .u8 5 w' (Wr.heap.size) (.slice A' N c') X0 from hV 6 (by simp))
      have v6 := (frame_at2 (us := us) hl (show (rlT[34]?).join = some 6 from rfl)).trans e6
      have e7 : us 7 = .agg C1 := hV 7 (by simp)
      have v7 := (frame_at2 (us := us) hl (show (rlT[35]?).join = some 7 from rfl)).trans e7
      have e8 : us 8 = .agg C2 := hV 8 (by simp)
      have v8 := (frame_at2 (us := us) hl (show (rlT[36]?).join = some 8 from rfl)).trans e8
      generalize frame rlT a0 us = fr at *
      exact call_ok (f := 31) (args := #[.slice A6 N c6, .agg C1, .agg C2]) (by go_simp) ((SU.out A6 c6 w' O6.nums).mono fun e w'' h => ⟨_, h.1, hG.below h.2, h.2, rfl⟩)
    · refine step_plain [9] (by kernel_rfl) rfl fun us w' hG hV => ?_
      have e9 : us 9 = .int .u16 sm := hV 9 (by simp)
      have v9 := (frame_at2 (us := us) hl (show (rlT[37]?).join = some 9 from rfl)).trans e9
      have q := NT.out
      generalize frame rlT a0 us = fr at *
      exact val_ok (v := .int .u16 ck) (w' := w') (by first | (go_simp; done) | (go_simp; exact q)) hG (Below.refl _ _) rfl
    · refine step_plain [0, 2, 10] (by kernel_rfl) rfl fun us w' hG hV => ?_
      have e0 : us 0 = .agg CP := hV 0 (by simp)
      have v0 := (frame_at2 (us := us) hl (show (rlT[28]?).join = some 0 from rfl)).trans e0
      have e2 : us 2 = .bool true := hV 2 (by simp)
      have v2 := (frame_at2 (us := us) hl (show (rlT[30]?).join = some 2 from rfl)).trans e2
      have e10 : us 10 = .int .u16 ck := hV 10 (by simp)
      have v10 := (frame_at2 (us := us) hl (show (rlT[38]?).join = some 10 from rfl)).trans e10
      generalize frame rlT a0 us = fr at *
      exact call_ok (f := 30) (args := #[.agg CP, .bool true, .int .u16 ck]) (by go_simp) ((BY1.out w' hG).mono fun e w'' ⟨A', c', h1, h2, h3⟩ => ⟨_, h1, hG.below h3, h3, A', c', rfl, h2.less hG.size⟩)
    · refine step_plain [11] (by kernel_rfl) rfl fun us w' hG hV => ?_
      obtain ⟨A11, c11, e11, O11⟩ := (show ∃ A' c', us 11 = .slice A' N c' ∧ Own .u8 5 w' (Wr.heap.size) (.slice A' N c') X1 from hV 11 (by simp))
      have v11 := (frame_at2 (us := us) hl (show (rlT[39]?).join = some 11 from rfl)).trans e11
      generalize frame rlT a0 us = fr at *
      exact val_ok (v := .slice A11 N c11) (w' := w') (by go_simp) hG (Below.refl _ _) ⟨A11, c11, rfl, O11⟩
    · refine step_plain [] (by kernel_rfl) rfl fun us w' hG hV => ?_
      generalize frame rlT a0 us = fr at *
      exact val_ok (v := .int .i64 0) (w' := w') (by go_simp) hG (Below.refl _ _) rfl
    · intro us w5 hG hV
      obtain ⟨A7, c7, e7, O7⟩ := (show ∃ A' c', us 12 = .slice A' N c' ∧ Own .u8 5 w5 (Wr.heap.size) (.slice A' N c') X1 from hV 12 (by decide))
      have e8 : us 13 = .int .i64 0 := hV 13 (by decide)
      subst ha0
      simp only [frame, rlT, fill]
      rw [e7, e8]
      have HG5 := Lib.hid hG
      have HO7 := Lib.hid O7
      clear hV hl hG k3 k4 k5 e7 e8 O7
      go_wp2_with fail
      go_ret2
      exact ⟨A7, N, c7, rfl, HO7.out.less HBr.out.size, HBr.out.trans (Below.mono HG5.out HBr.out.size)⟩
end Go.Proofs.Ytmbfgolcinniiaa.icC

/-
  Reply: the document's.
-/
namespace Go.Proofs.Ytmbfgolcinniiaa.icC
open Go.ChangeShapes Go.WideShapes Go.ChangeAt Go.RowKit
open Go.Proofs.Ytmbfgolcinniiaa.memC Go.Proofs.Ytmbfgolcinniiaa.genC Go.Proofs.Ytmbfgolcinniiaa.butC Go.Proofs.Ytmbfgolcinniiaa.freeC Go.Proofs.Ytmbfgolcinniiaa.adC
set_option linter.unusedVariables false
/-- an own row stands where a row of another type is turned -/
theorem own_otherI {w : World} {base : Nat} {v : Value} {xs : List Int} {e U : TypeId} (h : Own .u8 e w base v xs) {g : Nat} {cs cs' : Array Value} (hr : w.heap[g]? = some (.cells cs U (0, 0))) (hU : U ≠ e) : Own .u8 e (w.setRow g cs') base v xs := by
  refine ⟨h.1, ?_⟩
  rcases h.2 with h0 | ⟨k, cap, cur, e1, hb, hh, h'⟩
  · exact .inl h0
  · refine .inr ⟨k, cap, cur, e1, hb, ?_, h'⟩
    have hne : k ≠ g := fun q => by
      subst q
      rw [hr] at hh
      injection hh with hh
      injection hh with _ hh _
      exact hU hh
    rw [setRow_other _ _ _ _ hne]; exact hh
/-- what a store of a message does, at or behind a block -/
def MsD (Bq : Nat) (w1 w2 : World) : Prop := Below w1.heap.size w1 w2 ∨ ∃ g cs cs', w1.heap[g]? = some (.cells cs 26 (0, 0)) ∧ Bq ≤ g ∧ w2 = w1.setRow g cs'
def GrM (B : Nat) (w0 w : World) : Prop := Below B w0 w ∧ B ≤ w.heap.size
theorem GrM.row {B : Nat} {w0 w : World} (h : GrM B w0 w) {g : Nat} {ob : Obj} (hg : g < B) (hr : w0.heap[g]? = some ob) : w.heap[g]? = some ob := by rw [h.1.block _ hg]; exact hr
theorem GrM.keep {B : Nat} {w0 w w' : World} (h : GrM B w0 w) (hd : Below w.heap.size w w' ∨ MsD B w w') : GrM B w0 w' := by
  rcases hd with hd | hd | ⟨g, cs, cs', hr, hg, rfl⟩
  · exact ⟨h.1.trans (hd.mono h.2), Nat.le_trans h.2 hd.size⟩
  · exact ⟨h.1.trans (hd.mono h.2), Nat.le_trans h.2 hd.size⟩
  · exact ⟨setR_belowI h.1 hg _, by simpa using h.2⟩
theorem ms_built4 (x a b : Int) (A : Option Addr) (n c : Nat) : Try.prog.built 26 [(0, .int .i64 x), (2, .int .u16 a), (3, .int .u16 b), (5, .slice A n c)] = some (msV ⟨x, 0, a, b, 0⟩ A n c) := by kernel_rfl
theorem built4_runI {P : Program} {fr : Act} {o : Oper} {w : World} {T : TypeId} {i0 i1 i2 i3 : Nat} {x0 x1 x2 x3 : Operand} {v0 v1 v2 v3 : Value} {C : Array Value} (ho : o.op = .build T #[(i0, x0), (i1, x1), (i2, x2), (i3, x3)])
    (h0 : fr.eval x0 = v0) (h1 : fr.eval x1 = v1) (h2 : fr.eval x2 = v2) (h3 : fr.eval x3 = v3) (hb : P.built T [(i0, v0), (i1, v1), (i2, v2), (i3, v3)] = some C) : (execOp fr.eval o).run P w = .ok (.value (.agg C)) w := by
  unfold execOp
  have h : (Instr.build T #[(i0, v0), (i1, v1), (i2, v2), (i3, v3)]).run P w = .ok (.agg C) w := run_build w T _ C hb
  simp [ho, h0, h1, h2, h3, h, Result.andThen_ok]
/-- the message answered, and its data -/
def repM (m : Ms) : Ms := if m.ki = 1 then ⟨2, 0, m.id, m.sq, 0⟩ else zMs
def repL (m : Ms) (xs : List Int) : List Int := if m.ki = 1 then xs else []
/-- a message of the call's own data, and a bool -/
def MsB (w : World) (m : Ms) (xs : List Int) (b : Bool) (e : Ending) (w' : World) : Prop := ∃ A n c, e = .returned (.tuple #[.agg (msV m A n c), .bool b]) ∧ Own .u8 5 w' w.heap.size (.slice A n c) xs ∧ Below w.heap.size w w'
def rpR (Bq base : Nat) (ZS : Array Value) (rM : Ms) (mm : Nat) (XD : List Int) : Nat → (Nat → Value) → World → Prop
  | 0, _, w => w.heap[Bq]? = some (.cells ZS 26 (0, 0))
  | 1, _, w => ∃ B' d', w.heap[Bq]? = some (.cells (msV rM B' mm d') 26 (0, 0)) ∧ Own .u8 5 w base (.slice B' mm d') XD
  | _, _, _ => True
theorem rpR.keep (Bq base : Nat) (ZS : Array Value) (rM : Ms) (mm : Nat) (XD : List Int) (k : Nat) (us us' : Nat → Value) (w1 w2 : World) (hb : Below w1.heap.size w1 w2) (hR : rpR Bq base ZS rM mm XD k us w1) : rpR Bq base ZS rM mm XD k us' w2 := by
  unfold rpR at hR ⊢
  split at hR
  · rw [hb.block _ (lt_of_rowI hR)]; exact hR
  · obtain ⟨B', d', h3, h4⟩ := hR
    exact ⟨B', d', by rw [hb.block _ (lt_of_rowI h3)]; exact h3, h4.below hb⟩
  · trivial
def rpV (g1 g2 : Nat) (xi xs : Int) (BD : Option Addr) (mm dd : Nat) (rM : Ms) (XD : List Int) (base Bq : Nat) : Nat → Value → World → Prop
  | 0, v, _ => v = .pointer (some ⟨g1, 2, none⟩)
  | 1, v, _ => v = .int .u16 xi
  | 2, v, _ => v = .pointer (some ⟨g1, 3, none⟩)
  | 3, v, _ => v = .int .u16 xs
  | 4, v, _ => v = .pointer (some ⟨g1, 5, none⟩)
  | 5, v, _ => v = .slice BD mm dd
  | 6, v, wX => ∃ B' d', v = .slice B' mm d' ∧ Own .u8 5 wX base (.slice B' mm d') XD
  | 7, v, wX => ∃ B' d', v = .agg (msV rM B' mm d') ∧ Own .u8 5 wX base (.slice B' mm d') XD
  | 9, v, _ => v = .bool true
  | _, _, _ => True
theorem rpV.keep (g1 g2 : Nat) (xi xs : Int) (BD : Option Addr) (mm dd : Nat) (rM : Ms) (XD : List Int) (base Bq : Nat) (i : Nat) (v : Value) (w w' : World) (hd : Below w.heap.size w w' ∨ MsD Bq w w') (h : rpV g1 g2 xi xs BD mm dd rM XD base Bq i v w) : rpV g1 g2 xi xs BD mm dd rM XD base Bq i v w' := by
  by_cases e6 : i = 6
  · subst e6
    obtain ⟨B', d', h1, h2⟩ := h
    rcases hd with hd | hd | ⟨g, cs, cs', hr, hg, rfl⟩
    · exact ⟨B', d', h1, h2.below hd⟩
    · exact ⟨B', d', h1, h2.below hd⟩
    · exact ⟨B', d', h1, own_otherI h2 hr (by decide)⟩
  by_cases e7 : i = 7
  · subst e7
    obtain ⟨B', d', h1, h2⟩ := h
    rcases hd with hd | hd | ⟨g, cs, cs', hr, hg, rfl⟩
    · exact ⟨B', d', h1, h2.below hd⟩
    · exact ⟨B', d', h1, h2.below hd⟩
    · exact ⟨B', d', h1, own_otherI h2 hr (by decide)⟩
  unfold rpV at h ⊢
  split at h <;> first | exact h | exact absurd rfl (by assumption)
def rpT : List (Option Nat) := [none, none, none, some 9, none, none, none, none, some 0, some 1, some 2, some 3, some 4, some 5, some 6, some 7]
set_option maxRecDepth 100000 in
set_option maxHeartbeats 1000000 in
theorem rreply_any (m : Ms) (A : Option Addr) (n c : Nat) (zs : List Int) (w : World) (hx : Nums .u8 w w.heap.size A n zs) (hn : n ≤ 100000) :
    Calls Try.prog 21 #[.agg (msV m A n c)] w (MsB w (repM m) (repL m zs) (decide (m.ki = 1))) := by
  have hzv := zeroMs
  obtain ⟨W0, hW0⟩ : ∃ W, W = w.alloc (.cells (msV m A n c) 26) := ⟨_, rfl⟩
  obtain ⟨W, hW⟩ : ∃ W, W = W0.alloc (.cells (msV zMs none 0 0) 26) := ⟨_, rfl⟩
  have z0 : W0.heap.size = w.heap.size + 1 := by rw [hW0, alloc_size]
  have B0 : Below w.heap.size w W0 := by rw [hW0]; exact alloc_below _ _
  have B1 : Below W0.heap.size W0 W := by rw [hW]; exact alloc_below _ _
  have HB := Lib.hid (show Below w.heap.size w W from B0.trans (B1.mono (by omega)))
  have RP : W.heap[w.heap.size]? = some (.cells (msV m A n c) 26 (0, 0)) := by rw [B1.block _ (by omega), hW0]; exact heap_alloc_new _ _
  have RZ := Lib.hid (show W.heap[w.heap.size + 1]? = some (.cells (msV zMs none 0 0) 26 (0, 0)) by rw [hW, ← z0]; exact heap_alloc_new _ _)
  have OC := msC m A n c
  have k0 := pkC.PkC.cell RP OC.ki
  have IZ := Lib.hid (msC zMs none 0 0).info
  have OZ := Lib.hid (ms_one zMs none 0 0)
  have BZ := Lib.hid zMs_built
  unfold repM repL
  by_cases h1 : m.ki = 1
  rotate_left
  · have d1 : (m.ki != 1) = true := bne_iff_ne.2 h1
    rw [if_neg h1, if_neg h1, decide_eq_false h1]
    generalize msV m A n c = CP at *
    obtain ⟨ZS, hZS⟩ : ∃ Z, Z = msV zMs none 0 0 := ⟨_, rfl⟩
    simp only [← hZS] at hW hzv RZ IZ OZ BZ
    have EZ := Lib.hid hZS
    generalize m.ki = ki at *
    clear OC hx B0 B1 hZS h1
    go_enter Try.func21, Try.ntmps21
    go_upto_region 1 with fail
    rw [← hW0, ← hW]
    try rw [z0]
    clear hW0 hW z0 hzv
    go_wp2_with (first
      | (refine adC.wpList_zero rfl 26 rfl ZS BZ.out ?_)
      | (refine wpList_store_row rfl 26 (.tmp 2) (.tmp 7) rfl (w.heap.size + 1) _ rfl rfl _ _ RZ.out IZ.out rfl OZ.out ?_))
    refine bodyPost_ret (v := .tuple #[.agg ZS, .bool false]) (adC.results_cell_tmp Try.results21 _ _ (w.heap.size + 1) _ _ _ _ _ (by rfl) (setRow_heap _ _ _ _ _ _ RZ.out) Try.underlying26 rfl IZ.out (by rfl)) rfl ?_
    exact ⟨none, 0, 0, by rw [EZ.out], Own.nil _ _, setR_belowI HB.out (by omega) _⟩
  have d1 : (m.ki != 1) = false := by rw [h1]; rfl
  rw [if_pos h1, if_pos h1, decide_eq_true h1]
  have BQW := Lib.hid (show w.heap.size + 1 ≤ W.heap.size by rw [hW, alloc_size, z0]; omega)
  have BQL := Lib.hid (show w.heap.size ≤ w.heap.size + 1 from Nat.le_succ _)
  have KRP := fun (w' : World) (h : GrM (w.heap.size + 1) W w') => h.row (Nat.lt_succ_self _) RP
  have KI := Lib.hid (fun (w' : World) (h : GrM (w.heap.size + 1) W w') => pkC.PkC.cell (KRP w' h) OC.id)
  have KQ := Lib.hid (fun (w' : World) (h : GrM (w.heap.size + 1) W w') => pkC.PkC.cell (KRP w' h) OC.sq)
  have KD := Lib.hid (fun (w' : World) (h : GrM (w.heap.size + 1) W w') => pkC.PkC.cell (KRP w' h) OC.da)
  have NXD := Lib.hid (fun (w' : World) (h : GrM (w.heap.size + 1) W w') => (show Nums .u8 w' w'.heap.size A n zs from (hx.below (HB.out.trans (h.1.mono (Nat.le_succ _)))).more (Nat.le_trans (Nat.le_succ _) h.2)))
  have MM9 := Lib.hid hn
  have IX := Lib.hid (fun (B' : Option Addr) (d' : Nat) => (msC ⟨2, 0, m.id, m.sq, 0⟩ B' n d').info)
  have SX := Lib.hid (fun (B' : Option Addr) (d' : Nat) => ms_size zMs ⟨2, 0, m.id, m.sq, 0⟩ none B' 0 0 n d')
  have OX := Lib.hid (fun (B' : Option Addr) (d' : Nat) => ms_one ⟨2, 0, m.id, m.sq, 0⟩ B' n d')
  have BLT := Lib.hid (fun (B' : Option Addr) (d' : Nat) => ms_built4 2 m.id m.sq B' n d')
  obtain ⟨i0, hi0, hz0, hz1, hz2⟩ := info_parts byte_inf
  have I1 := Lib.hid hi0; have I2 := Lib.hid hz0; have I3 := Lib.hid hz1; have I4 := Lib.hid hz2
  generalize msV m A n c = CP at *
  obtain ⟨ZS, hZS⟩ : ∃ Z, Z = msV zMs none 0 0 := ⟨_, rfl⟩
  simp only [← hZS] at hW hzv RZ IZ OZ BZ SX
  clear OC hx B0 B1 hZS KRP RP hn hi0 hz0 hz1 hz2
  go_enter Try.func21, Try.ntmps21
  go_upto_region 1 with fail
  rw [← hW0, ← hW]
  try rw [z0]
  clear hW0 hW z0 hzv
  go_upto_region 3 with fail
  clear k0 d1 h1
  refine with_act fun a0 ha0 => ?_
  have hl : rpT.length = a0.tmps.size := by rw [ha0]; rfl
  have k1 : a0.tmps[1]?.getD undef = .pointer (some ⟨(w.heap.size), 0, none⟩) := by rw [ha0]; rfl
  have k2 : a0.tmps[2]?.getD undef = .pointer (some ⟨(w.heap.size + 1), 0, none⟩) := by rw [ha0]; rfl
  refine wp_region_che (by kernel_rfl) rpT (by kernel_rfl) (by kernel_rfl) hl (fun i => if i = 9 then .bool false else undef) (by rw [ha0]; rfl) (0) (MsD (w.heap.size + 1)) [8] (by kernel_rfl) (by decide) (by decide) (fun w' => GrM (w.heap.size + 1) W w') (rpV (w.heap.size) (w.heap.size + 1) m.id m.sq A n c (⟨2, 0, m.id, m.sq, 0⟩ : Ms) zs (w.heap.size) (w.heap.size + 1)) ((rpR (w.heap.size + 1) (w.heap.size) ZS (⟨2, 0, m.id, m.sq, 0⟩ : Ms) n zs)) (Nat.zero_le _) ⟨(Below.refl _ _).drew.mono BQW.out, BQW.out⟩ RZ.out (fun w1 w2 hb hd h => h.keep hd) (fun i v w w' _ hd h => rpV.keep _ _ _ _ _ _ _ _ _ _ _ i v w w' hd h) (fun k us us' w w' h _ hb hR => rpR.keep _ _ _ _ _ _ k us us' w w' hb hR) ⟨?_, ?_, ?_, ?_, ?_, ?_, ?_, ?_, ?_, ?_, trivial⟩ ?_
  · refine stepE_val [] (by kernel_rfl) (by decide) (by decide) rfl fun us w' hB hG hV => ?_
    have o1 := (frame_old2 (us := us) (a := a0) (show (rpT[1]?).join = none from rfl)).trans k1
    generalize frame rpT a0 us = fr at *
    exact val_C (v := .pointer (some ⟨(w.heap.size), 2, none⟩)) (w' := w') (by go_simp) (Below.refl _ _) rfl
  · refine stepE_val [0] (by kernel_rfl) (by decide) (by decide) rfl fun us w' hB hG hV => ?_
    have e0 : us 0 = .pointer (some ⟨(w.heap.size), 2, none⟩) := hV 0 (by simp)
    have v0 := (frame_at2 (us := us) hl (show (rpT[8]?).join = some 0 from rfl)).trans e0
    have hc := KI.out w' hG
    generalize frame rpT a0 us = fr at *
    exact val_C (v := .int .u16 m.id) (w' := w') (by go_simp) (Below.refl _ _) rfl
  · refine stepE_val [] (by kernel_rfl) (by decide) (by decide) rfl fun us w' hB hG hV => ?_
    have o1 := (frame_old2 (us := us) (a := a0) (show (rpT[1]?).join = none from rfl)).trans k1
    generalize frame rpT a0 us = fr at *
    exact val_C (v := .pointer (some ⟨(w.heap.size), 3, none⟩)) (w' := w') (by go_simp) (Below.refl _ _) rfl
  · refine stepE_val [2] (by kernel_rfl) (by decide) (by decide) rfl fun us w' hB hG hV => ?_
    have e2 : us 2 = .pointer (some ⟨(w.heap.size), 3, none⟩) := hV 2 (by simp)
    have v2 := (frame_at2 (us := us) hl (show (rpT[10]?).join = some 2 from rfl)).trans e2
    have hc := KQ.out w' hG
    generalize frame rpT a0 us = fr at *
    exact val_C (v := .int .u16 m.sq) (w' := w') (by go_simp) (Below.refl _ _) rfl
  · refine stepE_val [] (by kernel_rfl) (by decide) (by decide) rfl fun us w' hB hG hV => ?_
    have o1 := (frame_old2 (us := us) (a := a0) (show (rpT[1]?).join = none from rfl)).trans k1
    generalize frame rpT a0 us = fr at *
    exact val_C (v := .pointer (some ⟨(w.heap.size), 5, none⟩)) (w' := w') (by go_simp) (Below.refl _ _) rfl
  · refine stepE_val [4] (by kernel_rfl) (by decide) (by decide) rfl fun us w' hB hG hV => ?_
    have e4 : us 4 = .pointer (some ⟨(w.heap.size), 5, none⟩) := hV 4 (by simp)
    have v4 := (frame_at2 (us := us) hl (show (rpT[12]?).join = some 4 from rfl)).trans e4
    have hc := KD.out w' hG
    generalize frame rpT a0 us = fr at *
    exact val_C (v := .slice A n c) (w' := w') (by go_simp) (Below.refl _ _) rfl
  · refine stepE_val [5] (by kernel_rfl) (by decide) (by decide) rfl fun us w' hB hG hV => ?_
    have e5 : us 5 = .slice A n c := hV 5 (by simp)
    have v5 := (frame_at2 (us := us) hl (show (rpT[13]?).join = some 5 from rfl)).trans e5
    generalize frame rpT a0 us = fr at *
    exact append_Jo (R := fun v w'' => Below w'.heap.size w' w'' ∧ rpV (w.heap.size) (w.heap.size + 1) m.id m.sq A n c (⟨2, 0, m.id, m.sq, 0⟩ : Ms) zs (w.heap.size) (w.heap.size + 1) 6 v w'') (.const (.slice none 0 0)) (.tmp 13) 24 rfl 5 i0 _ 1 Try.underlying24 I1.out I2.out I3.out I4.out rfl w'.heap.size _ [] (by rfl) (Own.nil _ _) w'.heap.size _ n c zs (eval_tmp v5) (NXD.out w' hG) (by rw [List.length_nil]; have := MM9.out; unfold maxLen; omega) (by rw [List.length_nil]; have := MM9.out; omega) (Nat.le_refl _) n (by simp) fun A' c' w'' _ _ O' B' => ⟨B', A', c', rfl, O'.less (Nat.le_trans BQL.out hG.2)⟩
  · refine stepE_val [1, 3, 6] (by kernel_rfl) (by decide) (by decide) rfl fun us w' hB hG hV => ?_
    have e1 : us 1 = .int .u16 m.id := hV 1 (by simp)
    have v1 := (frame_at2 (us := us) hl (show (rpT[9]?).join = some 1 from rfl)).trans e1
    have e3 : us 3 = .int .u16 m.sq := hV 3 (by simp)
    have v3 := (frame_at2 (us := us) hl (show (rpT[11]?).join = some 3 from rfl)).trans e3
    obtain ⟨B6, d6, e6, O6⟩ := (show ∃ B' d', us 6 = .slice B' n d' ∧ Own .u8 5 w' (w.heap.size) (.slice B' n d') zs from hV 6 (by simp))
    have v6 := (frame_at2 (us := us) hl (show (rpT[14]?).join = some 6 from rfl)).trans e6
    generalize frame rpT a0 us = fr at *
    exact val_C (v := .agg (msV (⟨2, 0, m.id, m.sq, 0⟩ : Ms) B6 n d6)) (w' := w') (built4_runI (T := 26) rfl (by rfl) (eval_tmp v1) (eval_tmp v3) (eval_tmp v6) (BLT.out B6 d6)) (Below.refl _ _) ⟨B6, d6, rfl, O6⟩
  · refine stepE_chain 0 rfl (by decide) [7] (by kernel_rfl) (by decide) rfl fun us w' hB hG hV hR => ?_
    obtain ⟨B7, d7, e7, O7⟩ := (show ∃ B' d', us 7 = .agg (msV (⟨2, 0, m.id, m.sq, 0⟩ : Ms) B' n d') ∧ Own .u8 5 w' (w.heap.size) (.slice B' n d') zs from hV 7 (by simp))
    have v7 := (frame_at2 (us := us) hl (show (rpT[15]?).join = some 7 from rfl)).trans e7
    have o2 := (frame_old2 (us := us) (a := a0) (show (rpT[2]?).join = none from rfl)).trans k2
    generalize frame rpT a0 us = fr at *
    exact store_J (R := fun v w'' => (MsD (w.heap.size + 1) w' w'' ∧ Below 0 w' w'') ∧ rpR (w.heap.size + 1) (w.heap.size) ZS (⟨2, 0, m.id, m.sq, 0⟩ : Ms) n zs 1 (upd us 8 v) w'') 26 2 15 rfl (w.heap.size + 1) (msV (⟨2, 0, m.id, m.sq, 0⟩ : Ms) B7 n d7) o2 v7 _ _ hR (IX.out B7 d7) (SX.out B7 d7) (OX.out B7 d7) ⟨⟨.inr ⟨(w.heap.size + 1), _, _, hR, Nat.le_refl _, rfl⟩, setR_belowI (Below.refl _ _) (Nat.zero_le _) _⟩, B7, d7, setRow_heap _ _ _ _ _ _ hR, own_otherI O7 hR (by decide)⟩
  · refine stepE_val [] (by kernel_rfl) (by decide) (by decide) rfl fun us w' hB hG hV => ?_
    generalize frame rpT a0 us = fr at *
    exact val_C (v := .bool true) (w' := w') (by go_simp) (Below.refl _ _) rfl
  · intro us w8 hB2 hG hV hR
    obtain ⟨B6, d6, hgr, O6⟩ := (show ∃ B' d', w8.heap[(w.heap.size + 1)]? = some (.cells (msV (⟨2, 0, m.id, m.sq, 0⟩ : Ms) B' n d') 26 (0, 0)) ∧ Own .u8 5 w8 (w.heap.size) (.slice B' n d') zs from hR)
    have e9 : us 9 = .bool true := hV 9 (by decide) (by decide)
    have HG8 := Lib.hid hG
    have HGR := Lib.hid hgr
    have HO6 := Lib.hid O6
    subst ha0
    simp only [frame, rpT, fill]
    rw [e9]
    clear hV hG hl hR hgr O6 k1 k2 e9
    have IY := Lib.hid (IX.out B6 d6)
    clear IX SX OX KI KQ KD NXD BLT
    go_wp2_with fail
    refine bodyPost_ret (v := .tuple #[.agg (msV (⟨2, 0, m.id, m.sq, 0⟩ : Ms) B6 n d6), .bool true]) (adC.results_cell_tmp Try.results21 _ _ (w.heap.size + 1) _ _ _ _ _ (by rfl) HGR.out Try.underlying26 rfl IY.out (by rfl)) rfl ?_
    exact ⟨B6, n, d6, rfl, HO6.out, HB.out.trans (HG8.out.1.mono (Nat.le_succ _))⟩
end Go.Proofs.Ytmbfgolcinniiaa.icC

/-
  What the document's Parse answers, over numbers; cuts of a slice.
-/
namespace Go.Proofs.Ytmbfgolcinniiaa.icC
open Go.ChangeShapes Go.WideShapes Go.ChangeAt Go.RowKit
open Go.Proofs.Ytmbfgolcinniiaa.memC Go.Proofs.Ytmbfgolcinniiaa.genC Go.Proofs.Ytmbfgolcinniiaa.butC Go.Proofs.Ytmbfgolcinniiaa.freeC Go.Proofs.Ytmbfgolcinniiaa.adC
open Go.Proofs.Ytmbfgolcinniiaa.octC (getZ)
set_option linter.unusedVariables false
/-- whether a kind may have made the first two bytes -/
def hitM (six : Bool) (x0 x1 : Int) (k : Nat) : Bool := (tyM k six == x0) && !(!six && ((x0 == 3) && ((k == 4) != (x1 == 4))))
/-- the kinds, one behind the other -/
def loopM (six : Bool) (x0 x1 : Int) (n : Nat) : Nat → Nat → Ms → Option Ms
  | 0, _, _ => none
  | f + 1, k, m => if hitM six x0 x1 k = true then (if mayM (keptM { m with ki := k }) n six = true then some (keptM { m with ki := k }) else loopM six x0 x1 n f (k + 1) (keptM { m with ki := k })) else loopM six x0 x1 n f (k + 1) m
/-- what stands ahead of the kinds -/
def headI (bs : List Int) : Ms := ⟨0, bs.getD 1 0, getZ ((bs.drop 4).take 2), getZ ((bs.drop 6).take 2), getZ ((bs.drop 4).take 4)⟩
def resI (r : Option Ms) (xs : List Int) : Int × Ms × List Int :=
  match r with
  | some m => (0, m, xs)
  | none => (11, zMs, [])
def psI (six good : Bool) (bs : List Int) : Int × Ms × List Int :=
  if bs.length < 8 then (4, zMs, []) else if good = false then (8, zMs, []) else
    resI (loopM six (bs.getD 0 0) (bs.getD 1 0) (bs.length - 8) 5 1 (headI bs)) (bs.drop 8)
def goodI (s1 s2 : Bool) (b1 b2 bs : List Int) : Bool := decide (sumM s1 s2 b1 b2 bs = 65535)
/-- a message of the call's own data, and a number -/
def PsM (w : World) (e3 : Int × Ms × List Int) (e : Ending) (w' : World) : Prop := ∃ A n c, e = .returned (.tuple #[.agg (msV e3.2.1 A n c), .int .i64 e3.1]) ∧ Own .u8 5 w' w.heap.size (.slice A n c) e3.2.2 ∧ Below w.heap.size w w'
theorem psm_err {w wr : World} {g : Nat} {six gd : Bool} {bs : List Int} (hb : Below w.heap.size w wr) (hg : w.heap.size ≤ g) (er : Int) (h : psI six gd bs = (er, zMs, [])) (Z : Array Value) (hZ : Z = msV zMs none 0 0) :
    PsM w (psI six gd bs) (.returned (.tuple #[.agg Z, .int .i64 er])) (wr.setRow g Z) := by
  rw [h]
  exact ⟨none, 0, 0, by rw [hZ], Own.nil _ _, setR_belowI hb hg _⟩
theorem rget_retI {A : Option Addr} {n c : Nat} {bs : List Int} (w : World) (h : Nums .u8 w w.heap.size A n bs) (hn : n ≤ 8) (hc : n ≤ c) (hcm : c ≤ 9223372036854775807) (hy : ∀ x ∈ bs, Byte x) :
    Calls Try.prog 38 #[.slice A n c] w (Ret w (.int .u64 (getZ bs))) := by
  have g := octC.getref_any A n c bs w h (by omega) hc hcm hy
  rw [show octC.last8 bs = bs by rw [octC.last8, h.len, show n - 8 = 0 by omega]; rfl] at g
  exact g.mono fun e w' ⟨h1, h2⟩ => ⟨h1, by rw [← h2]; exact Below.refl _ _⟩
theorem partNI {w : World} {B : Nat} {A : Option Addr} {n d k : Nat} {bs : List Int} (h : Nums .u8 w B A n bs) (hk : k ≤ n) (hd : n ≤ d) : Nums .u8 w B (if d = k then A else A.map (·.add k)) (n - k) (bs.drop k) := by
  have hl := h.len
  refine ⟨by rw [List.length_drop]; omega, fun h0 => ?_⟩
  obtain ⟨b, o, e, hb, hc⟩ := h.at_ (by omega)
  subst e
  rw [if_neg (by omega), show (some (⟨b, o, none⟩ : Addr)).map (·.add k) = some ⟨b, o + k, none⟩ by simp [memC.add_plain]]
  refine ⟨b, o + k, rfl, hb, fun i hi => ?_⟩
  have := hc (k + i) (by omega)
  rw [Nat.add_assoc, this]
  simp only [List.getD_eq_getElem?_getD, List.getElem?_drop]
theorem pkCutAtI (b o n c f e m d : Nat) (h1 : f ≤ e) (h2 : e ≤ c) (h3 : f < c) (hm : e - f = m) (hd : c - f = d) (w : World) :
    (Instr.slice 24 (.slice (some ⟨b, o, none⟩) n c) (some (.int .i64 (f : Int))) (some (.int .i64 (e : Int))) none).run Try.prog w = .ok (.slice (some ⟨b, o + f, none⟩) m d) w := by
  subst hm hd
  have h := pkC.cut_two (some ⟨b, o, none⟩) n c f e h1 h2 w
  rw [if_neg (by omega), show (some (⟨b, o, none⟩ : Addr)).map (·.add f) = some ⟨b, o + f, none⟩ by simp [memC.add_plain]] at h
  exact h
theorem numsAtI {w : World} {B b o n : Nat} {bs : List Int} (h : Nums .u8 w B (some ⟨b, o, none⟩) n bs) (f m : Nat) (hm : f + m ≤ n) : Nums .u8 w B (some ⟨b, o + f, none⟩) m ((bs.drop f).take m) := by
  refine ⟨by rw [List.length_take, List.length_drop, h.len]; omega, fun h0 => ?_⟩
  obtain ⟨b', o', e, hb, hc⟩ := h.at_ (by omega)
  cases e
  refine ⟨b, o + f, rfl, hb, fun i hi => ?_⟩
  have := hc (f + i) (by omega)
  rw [Nat.add_assoc, this]
  simp only [List.getD_eq_getElem?_getD, List.getElem?_take, List.getElem?_drop, if_pos hi]
theorem some_atI {w : World} {B : Nat} {A : Option Addr} {n : Nat} {xs : List Int} (h : Nums .u8 w B A n xs) (hn : 0 < n) : ∃ gb ob, A = some ⟨gb, ob, none⟩ := by
  obtain ⟨b, o, e, _⟩ := h.at_ hn
  exact ⟨b, o, e⟩
end Go.Proofs.Ytmbfgolcinniiaa.icC
