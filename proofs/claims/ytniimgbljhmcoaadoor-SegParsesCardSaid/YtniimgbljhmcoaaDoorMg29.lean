/-
  10 texts of a proof, joined.
-/
import Derived.Test.YtniimgbljhmcoaaDoorMg28
import Derived.Test.YtniimgbljhmcoaaDoorMg27
import Derived.Test.YtniimgbljhmcoaaDoorMg19
import Derived.Deep.Matrix
import Derived.Test.YtniimgbljhmcoaaDoorMg1
import Derived.Lib.AppendZeros
import Derived.StillTailTactics
import Derived.Deep.RegionWith
import Derived.Laws.Rows
import Derived.Test.YtniimgbljhmcoaaDoorMg20
import Derived.BigRegion
import Derived.Deep.CutRange
import Derived.Test.YtniimgbljhmcoaaDoorMg2
import Derived.Test.YtniimgbljhmcoaaDoorMg7
import Derived.Laws.CopyOwn
import Derived.Test.YtniimgbljhmcoaaDoorMg5

/-
  A segment is read: the program's.
-/
namespace Go.Proofs.YtniimgbljhmcoaaDoor.sgC
open Go.ChangeShapes Go.WideShapes Go.ChangeAt Go.RowKit
open Go.Proofs.YtniimgbljhmcoaaDoor.memC Go.Proofs.YtniimgbljhmcoaaDoor.genC Go.Proofs.YtniimgbljhmcoaaDoor.butC Go.Proofs.YtniimgbljhmcoaaDoor.freeC Go.Proofs.YtniimgbljhmcoaaDoor.adC
open Go.Proofs.YtniimgbljhmcoaaDoor.octC (Fr Rd RdD stopped getZ)
open Go.Proofs.YtniimgbljhmcoaaDoor.opC (Kd getZ_bound getD_byte0 zOpt zOpt_ok U32 OwnP psE psO optV at_build ps_good fr_less fr_row rd_ofD rdD_fr)
set_option linter.unusedVariables false
/-- how many bytes the header tells of -/
def sgN (bs : List Int) : Int := hdN (bs.take 20)
def sgO (bs : List Int) : List Int := (bs.drop 20).take ((sgN bs).toNat - 20)
def sgR (bs : List Int) : Sg := { hdS (bs.take 20) with op := psO (sgO bs) }
def sgD (bs : List Int) : List Int := bs.drop (sgN bs).toNat
/-- how bytes are read: the error, the segment, its data -/
def sgP (good : Bool) (bs : List Int) : Int × Sg × List Int :=
  if bs.length < 20 then (4, zSg, []) else if sgN bs < 20 then (3, zSg, []) else if (bs.length : Int) < sgN bs then (4, zSg, []) else if good = false then (8, zSg, [])
  else if psE (sgO bs) ≠ 0 then (psE (sgO bs), zSg, []) else if mayS (sgR bs) (sgD bs).length = true then (0, sgR bs, sgD bs) else (3, zSg, [])
theorem sgN_bd {bs : List Int} (hy : ∀ x ∈ bs, Byte x) (hl : 20 ≤ bs.length) : 0 ≤ sgN bs ∧ sgN bs ≤ 60 ∧ sgN bs % 4 = 0 := by
  have h := getD_byte0 (bs := bs.take 20) (fun x hx => hy x (List.mem_of_mem_take hx)) 12
  unfold Byte at h
  unfold sgN hdN
  omega
theorem sgR_ok {bs : List Int} (hy : ∀ x ∈ bs, Byte x) (hl : 20 ≤ bs.length) (h0 : psE (sgO bs) = 0) : (sgR bs).Ok := by
  have h := hdS_ok (hd := bs.take 20) (fun x hx => hy x (List.mem_of_mem_take hx)) (by rw [List.length_take]; omega)
  have hg := ps_good (bs := sgO bs) (fun x hx => hy x (by unfold sgO at hx; exact List.mem_of_mem_drop (List.mem_of_mem_take hx)))
  rcases hg with ⟨_, hg⟩ | ⟨hn, _⟩
  · exact { h with op := hg.ok }
  · exact absurd h0 hn
def RdRes (w : World) (p : Nat) (P : Int × Sg × List Int) (e : Ending) (w' : World) : Prop :=
  (P.1 = 4 ∧ e = stopped ∧ Fr (· = p) w w') ∨ (P.1 ≠ 4 ∧ ∃ A n c B m d, e = .returned (.tuple #[.agg (segV P.2.1 A n c B m d), .int .i64 P.1]) ∧ P.2.1.op.sk.length = n ∧ OwnP w' w.heap.size (.slice A n c) P.2.1.op.sk ∧ Own .u8 5 w' w.heap.size (.slice B m d) P.2.2 ∧ Fr (· = p) w w')
/-- a segment that is being read -/
structure Ts (w0 w : World) (p q g : Nat) (b : List Int) (s : Sg) (A : Option Addr) (n c : Nat) (B : Option Addr) (m d : Nat) : Prop where
  rd : RdD w p q b
  res : SegAt w w0.heap.size zSg none 0 0 none 0 0
  row : SegAt w g s A n c B m d
  fr : Fr (· = p) w0 w
  lt : p < w0.heap.size
  gt : w0.heap.size < g
section
variable {w0 w w' : World} {p q g : Nat} {b b' : List Int} {s s' : Sg} {A A' : Option Addr} {n c n' c' : Nat} {B B' : Option Addr} {m d m' d' : Nat}
theorem Ts.next (h : Ts w0 w p q g b s A n c B m d) (R : RdD w' p q b') (F : Fr (· = p) w w') : Ts w0 w' p q g b' s A n c B m d := by
  have hq := h.lt
  have hg := h.gt
  refine ⟨R, ?_, ?_, h.fr.trans F, hq, hg⟩
  · unfold SegAt; rw [F.block _ h.res.lt (by show ¬ w0.heap.size = p; omega)]; exact h.res
  · unfold SegAt; rw [F.block _ h.row.lt (by show ¬ g = p; omega)]; exact h.row
theorem Ts.bel (h : Ts w0 w p q g b s A n c B m d) (F : Below w.heap.size w w') : Ts w0 w' p q g b s A n c B m d := h.next (h.rd.below F) (Fr.below F)
theorem Ts.turn (h : Ts w0 w p q g b s A n c B m d) (hs : w'.heap.size = w.heap.size) (ho : w'.os = w.os) (ht : w'.tape = w.tape) (hu : w'.output = w.output) (hb : ∀ k, k ≠ g → w'.heap[k]? = w.heap[k]?) (hr : SegAt w' g s' A' n' c' B' m' d') : Ts w0 w' p q g b s' A' n' c' B' m' d' := by
  have hq := h.lt
  have hg := h.gt
  have hB := h.rd.le
  refine ⟨h.rd.keep (by omega) (hb p (by omega)) (fun k hk => hb k (by omega)), ?_, hr, ?_, hq, hg⟩
  · unfold SegAt; rw [hb _ (by omega)]; exact h.res
  · exact ⟨ho.trans h.fr.os, ht.trans h.fr.tape, hu.trans h.fr.output, by rw [hs]; exact h.fr.size, fun k hk hn => (hb k (by omega)).trans (h.fr.block k hk hn)⟩
theorem Ts.set_ (h : Ts w0 w p q g b s A n c B m d) (j : Nat) (v : Value) (e : (segV s A n c B m d).setIfInBounds j v = segV s' A' n' c' B' m' d') : Ts w0 (w.setCell ⟨g, j, none⟩ v) p q g b s' A' n' c' B' m' d' :=
  h.turn (by simp [World.setCell]) rfl rfl rfl (fun k hk => Below.heap_setCell _ _ _ _ hk) (h.row.set_ j v e)
theorem Ts.opts (h : Ts w0 w p q g b s A n c B m d) {o : opC.Opt} (h1 : s.op.mac.length = 12) (h2 : o.mac.length = 12) :
    Ts w0 (w.setRow g ((segV s A n c B m d).toList.take 7 ++ (optV o A' n' c').toList ++ (segV s A n c B m d).toList.drop (7 + (optV o A' n' c').size)).toArray) p q g b { s with op := o } A' n' c' B m d := by
  refine h.turn (by simp) rfl rfl rfl (fun k hk => setRow_other _ _ _ _ hk) ?_
  unfold SegAt
  rw [← segV_op h1 h2]
  exact setRow_heap _ _ _ _ _ _ h.row.row
theorem wpList_store_opt {ops : Array Oper} {rest : List Oper} {op : Oper} {a : Act} {Q : Exit → Act → World → Prop} (hgd : op.guard = none) (x y : Operand) (ho : op.op = .store 31 x y) (o : opC.Opt) (hx : a.eval x = .pointer (some ⟨g, 7, none⟩)) (hy : a.eval y = .agg (optV o A' n' c'))
    (T : Ts w0 w p q g b s A n c B m d) (h1 : s.op.mac.length = 12) (h2 : o.mac.length = 12)
    (h : ∀ w', Ts w0 w' p q g b { s with op := o } A' n' c' B m d → (∀ k, k ≠ g → w'.heap[k]? = w.heap[k]?) → wpList Tryd.prog ops Q rest (a.put op.dst undef) w') : wpList Tryd.prog ops Q (op :: rest) a w :=
  partC.wpList_store_part hgd 31 x y ho g 7 (optV o A' n' c') hx hy 34 _ T.row.row (opC.optC h2 A' n' c').info (by rw [(opC.optC h2 A' n' c').size, (segC h1 A n c B m d).size]; decide) (opC.opt_one o A' n' c') (h _ (T.opts h1 h2) fun k hk => setRow_other _ _ _ _ hk)
end
set_option maxRecDepth 100000 in
set_option maxHeartbeats 4000000 in
theorem read_any (p q0 : Nat) (bs : List Int) (good : Bool) (w : World) (hR : RdD w p q0 bs) (hK : ∀ w', Fr (· = p) w w' → Kd w') (hm : bs.length ≤ 100000) (hy : ∀ x ∈ bs, Byte x) : Calls Tryd.prog 43 #[.pointer (some ⟨p, 0, none⟩), .bool good] w (RdRes w p (sgP good bs)) := by
  have hzv := zeroSeg
  obtain ⟨W, hW⟩ : ∃ W, W = w.alloc (.cells (segV zSg none 0 0 none 0 0) 34) := ⟨_, rfl⟩
  have BW : Below w.heap.size w W := by rw [hW]; exact alloc_below _ _
  have R0 := Lib.hid (hR.below BW)
  have F0 := Lib.hid (Fr.below (S := (· = p)) BW)
  have SZ0 := Lib.hid (show W.heap.size = w.heap.size + 1 by rw [hW]; exact alloc_size _ _)
  have Z0 := Lib.hid (show SegAt W w.heap.size zSg none 0 0 none 0 0 by unfold SegAt; rw [hW]; exact heap_alloc_new _ _)
  have HPW := Lib.hid (show p < w.heap.size from hR.lt)
  have HBP := Lib.hid hR.le
  have HK := Lib.hid hK
  have HM := Lib.hid hm
  have HY := Lib.hid hy
  have IZ := Lib.hid (segC zOpt_ok.lm none 0 0 none 0 0 (s := zSg)).info
  have OZ := Lib.hid (seg_one zSg none 0 0 none 0 0)
  have EB := Lib.hid zSg_built
  obtain ⟨Z, hZ⟩ : ∃ Z, Z = segV zSg none 0 0 none 0 0 := ⟨_, rfl⟩
  have HZ := Lib.hid hZ
  rw [← hZ] at IZ OZ EB hzv hW
  obtain ⟨P, hP⟩ : ∃ P, P = sgP good bs := ⟨_, rfl⟩
  rw [← hP]
  unfold sgP at hP
  have EP := Lib.hid hP
  clear hR hm hy BW hZ hP hK
  by_cases h20 : bs.length < 20
  · have EQ := Lib.hid (show P = (4, zSg, []) by rw [EP.out, if_pos h20])
    have SB := Lib.hid (octC.sub_stop p bs 20 20 W (rd_ofD R0.out) rfl h20)
    clear h20
    go_enter Tryd.func43, Tryd.ntmps43
    go_upto_region 1 with fail
    rw [← hW]
    clear hW hzv
    go_wp2_with (first
      | (go_at_call 76; refine SB.out.mono ?_; rintro e w4 ⟨he, rfl⟩; rw [octC.stopped_eq] at he; subst he))
    exact ⟨rfl, .inl ⟨by rw [EQ.out], rfl, F0.out⟩⟩
  have h20' : 20 ≤ bs.length := by omega
  have L20 := Lib.hid h20'
  rw [if_neg h20] at EP
  obtain ⟨nb0, nb1, nb4⟩ := sgN_bd HY.out h20'
  have SB := Lib.hid (octC.sub_ok p q0 bs 20 20 W R0.out rfl h20')
  unfold octC.SubR at SB
  have HA := Lib.hid (fun (q : Nat) (w' : World) (R : RdD w' q q0 (bs.take 20)) => header_any q q0 (bs.take 20) w' R (by rw [List.length_take]; have := L20.out; omega) (fun x hx => HY.out x (List.mem_of_mem_take hx)))
  obtain ⟨H, hH⟩ : ∃ H, H = hdS (bs.take 20) := ⟨_, rfl⟩
  obtain ⟨N, hN⟩ : ∃ N, N = sgN bs := ⟨_, rfl⟩
  have EN := Lib.hid hN
  have EH := Lib.hid hH
  have HMAC := Lib.hid (show H.op.mac.length = 12 by rw [hH]; exact zOpt_ok.lm)
  rw [← hN] at nb0 nb1 nb4 EP
  unfold sgN at hN
  rw [← hH, ← hN] at HA
  have SZH := Lib.hid (seg_size (s := zSg) (s' := H) zOpt_ok.lm HMAC.out none none 0 0 0 0 none none 0 0 0 0)
  rw [← HZ.out] at SZH
  have IH := Lib.hid (segC HMAC.out none 0 0 none 0 0).info
  have OH := Lib.hid (seg_one H none 0 0 none 0 0)
  have NB0 := Lib.hid nb0
  have NB1 := Lib.hid nb1
  clear h20 h20' hN hH nb0 nb1 nb4
  go_enter Tryd.func43, Tryd.ntmps43
  go_upto_region 1 with fail
  rw [← hW]
  clear hW
  go_upto_region 2 with (first
    | (go_at_call 76; refine SB.out.mono ?_; rintro e w1 ⟨q, rfl, hq, rq, r1, f1⟩
       have HQ := Lib.hid hq
       have RQ := Lib.hid rq
       have R1 := Lib.hid r1
       have F1 := Lib.hid (fr_less F0.out f1 (fun k _ h => h))
       have Z1 := Lib.hid (show SegAt w1 w.heap.size zSg none 0 0 none 0 0 by unfold SegAt; rw [f1.block _ Z0.out.lt (by show ¬ w.heap.size = p; have := HPW.out; omega)]; exact Z0.out)
       clear hq rq r1 f1)
    | (go_at_call 75; refine (HA.out q _ RQ.out).mono ?_; rintro e w2 ⟨rfl, f2⟩
       have HQW := Lib.hid (show w.heap.size < q by have := HQ.out; have := SZ0.out; omega)
       have R2 := Lib.hid (rdD_fr R1.out f2 (fun k hk => by have h1 := HQW.out; have h2 := HPW.out; have h3 := HBP.out; have h4 : k = q := hk; omega))
       have F2 := Lib.hid (fr_less F1.out f2 (fun k hk h => by have h1 := HQW.out; have h4 : k = q := h; omega))
       have Z2 := Lib.hid (show SegAt w2 w.heap.size zSg none 0 0 none 0 0 by unfold SegAt; rw [f2.block _ Z1.out.lt (by show ¬ w.heap.size = q; have := HQW.out; omega)]; exact Z1.out)
       clear f2)
    | (refine wpList_store_row rfl 34 (.tmp 6) (.tmp 14) rfl w2.heap.size _ rfl rfl _ _ (heap_alloc_new _ _) IH.out SZH.out OH.out ?_; rw [World.setRow_alloc_new]))
  have B3 := Lib.hid (alloc_below w2 (.cells (segV H none 0 0 none 0 0) 34))
  have G2 := Lib.hid (show w.heap.size < w2.heap.size from Z2.out.lt)
  have T3 := Lib.hid (show Ts w (w2.alloc (.cells (segV H none 0 0 none 0 0) 34)) p q0 w2.heap.size (bs.drop 20) H none 0 0 none 0 0 from ⟨R2.out.below B3.out, Z2.out.bel B3.out, SegAt.new _ _ _ _ _ _ _ _, fr_less F2.out (Fr.below (S := (· = p)) B3.out) (fun k _ h => h), HPW.out, G2.out⟩)
  obtain ⟨g, hg⟩ : ∃ g, g = w2.heap.size := ⟨_, rfl⟩
  generalize w2.alloc (.cells (segV H none 0 0 none 0 0) 34) = w3 at *
  rw [← hg] at T3 G2 ⊢
  clear hg B3 R2 F2 Z2 SB HA R1 F1 Z1 RQ HQ HQW R0 F0 Z0 SZ0 SZH IH OH hzv
  have X3 := Lib.hid (And.intro T3.out (show w3.heap[w.heap.size]? = some (.cells Z 34 (0, 0)) by rw [HZ.out]; exact T3.out.res.row))
  by_cases hn20 : N < 20
  · rw [if_pos hn20] at EP
    have EQ := Lib.hid EP.out
    have E3 := Lib.hid (show (3 : Int) ≠ 4 by decide)
    go_wp2_with (first
      | (with_reducible refine at_build 34 ?_; refine wpList_runG (by kernel_rfl) _ (built_run (T := 34) rfl EB.out) ?_)
      | (refine wpList_store_row rfl 34 (.tmp 4) (.tmp 18) rfl w.heap.size Z rfl rfl _ _ X3.out.2 IZ.out rfl OZ.out ?_))
    refine bodyPost_ret (v := .tuple #[.agg Z, .int .i64 3]) (adC.results_cell_tmp Tryd.results43 _ _ w.heap.size _ _ _ _ _ (by rfl) (setRow_heap _ _ _ _ _ _ X3.out.2) Tryd.underlying34 rfl IZ.out (by rfl)) rfl ?_
    refine .inr ⟨by rw [EQ.out]; exact E3.out, none, 0, 0, none, 0, 0, by rw [EQ.out, HZ.out], by rw [EQ.out]; rfl, by rw [EQ.out]; exact OwnP.nil _ _, by rw [EQ.out]; exact Own.nil _ _, fr_row X3.out.1.fr (Nat.le_refl _) _⟩
  rw [if_neg hn20] at EP
  obtain ⟨s, hs⟩ : ∃ s, s = N.toNat - 20 := ⟨_, rfl⟩
  have hsz : (s : Int) = N - 20 := by omega
  have HSZ := Lib.hid hsz
  have HS40 := Lib.hid (show s ≤ 40 by have := NB1.out; omega)
  have ws : IntKind.i64.wrap (N - 20) = N - 20 := IntWalk.i64_in _ (by have := NB1.out; omega)
  have hbl : (bs.drop 20).length = bs.length - 20 := List.length_drop
  by_cases hns : (bs.length : Int) < N
  · rw [if_pos hns] at EP
    have EQ := Lib.hid EP.out
    have BS := Lib.hid (octC.bytes_stop p (bs.drop 20) s (N - 20) w3 (rd_ofD T3.out.rd) hsz (by have := L20.out; omega))
    clear hns hs hsz hbl
    go_wp2_with (first
      | (go_at_call 77; refine BS.out.mono ?_; rintro e w4 ⟨he, rfl⟩; rw [octC.stopped_eq] at he; subst he))
    exact ⟨rfl, .inl ⟨by rw [EQ.out], rfl, T3.out.fr⟩⟩
  rw [if_neg hns] at EP
  have BO := Lib.hid (octC.bytes_okD p q0 (bs.drop 20) s (N - 20) w3 T3.out.rd hsz (by have := L20.out; omega) (by have := HM.out; omega))
  unfold octC.ByD at BO
  have EO := Lib.hid (show (bs.drop 20).take s = sgO bs by unfold sgO; rw [← EN.out, hs])
  have ED := Lib.hid (show (bs.drop 20).drop s = sgD bs by unfold sgD; rw [← EN.out, List.drop_drop]; congr 1; omega)
  rw [EO.out, ED.out] at BO
  have HYO := Lib.hid (show ∀ x ∈ sgO bs, Byte x from fun x hx => HY.out x (by rw [← EO.out] at hx; exact List.mem_of_mem_drop (List.mem_of_mem_take hx)))
  have HDL := Lib.hid (show (sgD bs).length ≤ 100000 by rw [← ED.out, List.length_drop, hbl]; have := HM.out; omega)
  have ER := Lib.hid (show sgR bs = { H with op := psO (sgO bs) } by unfold sgR; rw [EH.out])
  rw [ER.out] at EP
  generalize sgO bs = OB at *
  generalize sgD bs = DB at *
  clear hns hs hsz hbl EO ED ER EH EN
  go_upto_region 5 with (first
    | (go_at_call 77; refine BO.out.mono ?_; rintro e w4 ⟨A4, c4, rfl, O4, h1, h2, r4, f4⟩
       have T4 := Lib.hid (T3.out.next r4 f4)
       have N4 := Lib.hid O4.nums
       clear h1 h2 r4 f4 O4))
  clear BO ws X3 hn20
  have X4 := Lib.hid (And.intro T4.out (show w4.heap[w.heap.size]? = some (.cells Z 34 (0, 0)) by rw [HZ.out]; exact T4.out.res.row))
  cases good
  · rw [if_pos rfl] at EP
    have EQ := Lib.hid EP.out
    have E3 := Lib.hid (show (8 : Int) ≠ 4 by decide)
    go_wp2_with (first
      | (with_reducible refine at_build 34 ?_; refine wpList_runG (by kernel_rfl) _ (built_run (T := 34) rfl EB.out) ?_)
      | (refine wpList_store_row rfl 34 (.tmp 4) (.tmp 25) rfl w.heap.size Z rfl rfl _ _ X4.out.2 IZ.out rfl OZ.out ?_))
    refine bodyPost_ret (v := .tuple #[.agg Z, .int .i64 8]) (adC.results_cell_tmp Tryd.results43 _ _ w.heap.size _ _ _ _ _ (by rfl) (setRow_heap _ _ _ _ _ _ X4.out.2) Tryd.underlying34 rfl IZ.out (by rfl)) rfl ?_
    refine .inr ⟨by rw [EQ.out]; exact E3.out, none, 0, 0, none, 0, 0, by rw [EQ.out, HZ.out], by rw [EQ.out]; rfl, by rw [EQ.out]; exact OwnP.nil _ _, by rw [EQ.out]; exact Own.nil _ _, fr_row X4.out.1.fr (Nat.le_refl _) _⟩
  rw [if_neg (by decide)] at EP
  have PC := Lib.hid (opC.cparse_own A4 s c4 OB w4 N4.out HYO.out (by have := HS40.out; omega))
  unfold opC.PsP at PC
  have hg := ps_good HYO.out
  have ML := Lib.hid (show (psO OB).mac.length = 12 by
    rcases hg with h | h
    · exact h.2.ok.lm
    · rw [h.2]; rfl)
  have SK := Lib.hid (show (psO OB).sk.length ≤ 4 by
    rcases hg with h | h
    · exact h.2.sk
    · rw [h.2]; decide)
  have E4 := Lib.hid (show psE OB ≠ 4 by
    unfold psE
    split
    · decide
    · split
      · decide
      · assumption)
  generalize psE OB = er at *
  generalize psO OB = o at *
  clear hg
  go_upto_region 9 with (first
    | (go_at_call 78; refine PC.out.mono ?_; rintro e w5 ⟨A5, n5, c5, rfl, l5, O5, B5⟩
       have T5 := Lib.hid (T4.out.bel B5)
       have L5 := Lib.hid l5
       have P5 := Lib.hid (show OwnP w5 (g + 1) (.slice A5 n5 c5) o.sk from O5.less T4.out.row.lt)
       clear O5 B5 l5)
    | (refine wpList_store_opt rfl (.tmp 31) (.tmp 29) rfl o rfl rfl T5.out HMAC.out ML.out ?_
       intro w6 t6 hk6
       have T6 := Lib.hid t6
       have P6 := Lib.hid (OwnP.keep (ps := o.sk) P5.out (w' := w6) fun k h1 h2 => hk6 k (by omega))
       clear t6 hk6))
  clear PC P5 T5 X4 T4 N4 HYO
  have X6 := Lib.hid (And.intro T6.out (show w6.heap[w.heap.size]? = some (.cells Z 34 (0, 0)) by rw [HZ.out]; exact T6.out.res.row))
  obtain ⟨S, hS⟩ : ∃ S, S = { H with op := o } := ⟨_, rfl⟩
  rw [← hS] at EP T6 X6
  have SM := Lib.hid (show S.op.mac.length = 12 by rw [hS]; exact ML.out)
  have SP := Lib.hid (show S.op = o by rw [hS])
  clear hS
  by_cases he0 : er ≠ 0
  · rw [if_pos he0] at EP
    have EQ := Lib.hid EP.out
    have E3 := E4
    have q1 : (er != 0) = true := by simpa using he0
    go_wp2_with (first
      | (with_reducible refine at_build 34 ?_; refine wpList_runG (by kernel_rfl) _ (built_run (T := 34) rfl EB.out) ?_)
      | (refine wpList_store_row rfl 34 (.tmp 4) (.tmp 34) rfl w.heap.size Z rfl rfl _ _ X6.out.2 IZ.out rfl OZ.out ?_))
    refine bodyPost_ret (v := .tuple #[.agg Z, .int .i64 er]) (adC.results_cell_tmp Tryd.results43 _ _ w.heap.size _ _ _ _ _ (by rfl) (setRow_heap _ _ _ _ _ _ X6.out.2) Tryd.underlying34 rfl IZ.out (by rfl)) rfl ?_
    refine .inr ⟨by rw [EQ.out]; exact E3.out, none, 0, 0, none, 0, 0, by rw [EQ.out, HZ.out], by rw [EQ.out]; rfl, by rw [EQ.out]; exact OwnP.nil _ _, by rw [EQ.out]; exact Own.nil _ _, fr_row X6.out.1.fr (Nat.le_refl _) _⟩
  rw [if_neg he0] at EP
  have he0' : er = 0 := by omega
  subst he0'
  have LF := Lib.hid (opC.left_any T6.out.rd)
  have BO := Lib.hid (octC.bytes_okD p q0 DB DB.length (DB.length : Nat) w6 T6.out.rd rfl (Nat.le_refl _) HDL.out)
  unfold octC.ByD at BO
  rw [List.take_length] at BO
  clear he0 E4
  obtain ⟨m, hm⟩ : ∃ m, m = DB.length := ⟨_, rfl⟩
  rw [← hm] at LF BO EP
  have HMD := Lib.hid hm
  clear hm
  go_upto_region 12 with (first
    | (go_at_call 79; refine LF.out.mono ?_; rintro e w7 ⟨rfl, hw⟩; obtain rfl := hw.symm)
    | (go_at_call 77; refine BO.out.mono ?_; rintro e w7 ⟨A7, c7, rfl, O7, h1, h2, r7, f7⟩
       have T7 := Lib.hid (T6.out.next r7 f7)
       have D7 := Lib.hid (show Own .u8 5 w7 (g + 1) (.slice A7 m c7) DB from O7.less T6.out.row.lt)
       have P7 := Lib.hid (OwnP.keep (ps := o.sk) P6.out fun k h1 h2 => f7.block k h2 (by show ¬ k = p; have := HPW.out; have := G2.out; omega))
       have k31 := pkC.PkC.cell T7.out.row.row (segC SM.out A5 n5 c5 none 0 0).da
       have f31 := T7.out.row.frozen 31
       clear h1 h2 r7 f7 O7))
  have T8 := Lib.hid (T7.out.set_ (A' := A5) (n' := n5) (c' := c5) (B' := A7) (m' := m) (d' := c7) (s' := S) 31 (.slice A7 m c7) (segV_da SM.out))
  have P8 := Lib.hid (OwnP.keep (ps := o.sk) P7.out (w' := w7.setCell ⟨g, 31, none⟩ (.slice A7 m c7)) fun k h1 h2 => Below.heap_setCell _ _ _ _ (by show k ≠ g; omega))
  have D8 := Lib.hid (Own.keep D7.out (w' := w7.setCell ⟨g, 31, none⟩ (.slice A7 m c7)) fun k h1 h2 => Below.heap_setCell _ _ _ _ (by show k ≠ g; omega))
  clear k31 f31 LF BO T7 P7 D7 T6 P6 X6
  generalize w7.setCell ⟨g, 31, none⟩ (.slice A7 m c7) = w8 at *
  have MA := Lib.hid (cmay_any S A5 n5 c5 A7 m c7 w8 (HK.out w8 T8.out.fr) SM.out (by rw [SP.out]; exact L5.out) (by have := SK.out; have := L5.out; omega))
  have IS := Lib.hid (segC SM.out A5 n5 c5 A7 m c7).info
  have OS := Lib.hid (seg_one S A5 n5 c5 A7 m c7)
  have SS := Lib.hid (show Z.size = (segV S A5 n5 c5 A7 m c7).size by rw [HZ.out]; exact seg_size zOpt_ok.lm SM.out _ _ _ _ _ _ _ _ _ _ _ _)
  have RS := Lib.hid T8.out.row.row
  obtain ⟨C, hC⟩ : ∃ C, C = segV S A5 n5 c5 A7 m c7 := ⟨_, rfl⟩
  have EC := Lib.hid hC
  rw [← hC] at MA IS OS SS RS
  clear hC
  obtain ⟨my, hmy⟩ : ∃ my, mayS S m = my := ⟨_, rfl⟩
  rw [hmy] at MA EP
  clear hmy
  cases my
  · rw [if_neg (by decide)] at EP
    have EQ := Lib.hid EP.out
    have E3 := Lib.hid (show (3 : Int) ≠ 4 by decide)
    go_upto_region 13 with (first
      | (refine wpList_load_row rfl 34 (.tmp 6) rfl g rfl _ _ _ _ RS.out Tryd.underlying34 rfl IS.out ?_)
      | (go_at_call 13; refine MA.out.mono ?_; rintro e w9 ⟨rfl, B9⟩
         have T9 := Lib.hid (T8.out.bel B9)
         clear B9))
    have X9 := Lib.hid (And.intro T9.out (show w9.heap[w.heap.size]? = some (.cells Z 34 (0, 0)) by rw [HZ.out]; exact T9.out.res.row))
    go_wp2_with (first
      | (with_reducible refine at_build 34 ?_; refine wpList_runG (by kernel_rfl) _ (built_run (T := 34) rfl EB.out) ?_)
      | (refine wpList_store_row rfl 34 (.tmp 4) (.tmp 44) rfl w.heap.size Z rfl rfl _ _ X9.out.2 IZ.out rfl OZ.out ?_))
    refine bodyPost_ret (v := .tuple #[.agg Z, .int .i64 3]) (adC.results_cell_tmp Tryd.results43 _ _ w.heap.size _ _ _ _ _ (by rfl) (setRow_heap _ _ _ _ _ _ X9.out.2) Tryd.underlying34 rfl IZ.out (by rfl)) rfl ?_
    refine .inr ⟨by rw [EQ.out]; exact E3.out, none, 0, 0, none, 0, 0, by rw [EQ.out, HZ.out], by rw [EQ.out]; rfl, by rw [EQ.out]; exact OwnP.nil _ _, by rw [EQ.out]; exact Own.nil _ _, fr_row X9.out.1.fr (Nat.le_refl _) _⟩
  rw [if_pos rfl] at EP
  have EQ := Lib.hid EP.out
  go_wp2_with (first
    | (with_reducible refine atC.at_one ?_; refine wpList_load_row rfl 34 (.tmp 6) rfl g rfl _ _ _ _ RS.out Tryd.underlying34 rfl IS.out ?_)
    | (go_at_call 13; refine MA.out.mono ?_; rintro e w9 ⟨rfl, B9⟩
       have T9 := Lib.hid (T8.out.bel B9)
       have P9 := Lib.hid (OwnP.below (ps := o.sk) P8.out B9)
       have D9 := Lib.hid (D8.out.below B9)
       have R9 := Lib.hid (show w9.heap[g]? = some (.cells C 34 (0, 0)) by rw [EC.out]; exact T9.out.row.row)
       have Z9 := Lib.hid (show w9.heap[w.heap.size]? = some (.cells Z 34 (0, 0)) by rw [HZ.out]; exact T9.out.res.row)
       clear B9)
    | (refine wpList_load_row rfl 34 (.tmp 6) rfl g rfl _ _ _ _ R9.out Tryd.underlying34 rfl IS.out ?_)
    | (refine wpList_store_row rfl 34 (.tmp 4) (.tmp 45) rfl w.heap.size C rfl rfl _ _ Z9.out IS.out SS.out OS.out ?_))
  refine bodyPost_ret (v := .tuple #[.agg C, .int .i64 0]) (adC.results_cell_tmp Tryd.results43 _ _ w.heap.size _ _ _ _ _ (by rfl) (setRow_heap _ _ _ _ _ _ Z9.out) Tryd.underlying34 rfl IS.out (by rfl)) rfl ?_
  refine .inr ⟨by rw [EQ.out]; show (0 : Int) ≠ 4; decide, A5, n5, c5, A7, m, c7, by rw [EQ.out, EC.out], by rw [EQ.out]; show S.op.sk.length = n5; rw [SP.out]; exact L5.out, ?_, ?_, fr_row T9.out.fr (Nat.le_refl _) _⟩
  · rw [EQ.out]
    show OwnP _ _ _ S.op.sk
    rw [SP.out]
    have := G2.out
    exact OwnP.less (OwnP.keep (ps := o.sk) P9.out fun k h1 h2 => setRow_other _ _ _ _ (by omega)) (by omega)
  · rw [EQ.out]
    have := G2.out
    exact Own.less (Own.keep D9.out fun k h1 h2 => setRow_other _ _ _ _ (by omega)) (by omega)
end Go.Proofs.YtniimgbljhmcoaaDoor.sgC

/-
  The walk of the first statement.
-/
namespace Go.Proofs.YtniimgbljhmcoaaDoor.chkC
open Go.ChangeShapes Go.WideShapes Go.ChangeAt Go.RowKit
open Go.Proofs.YtniimgbljhmcoaaDoor.memC Go.Proofs.YtniimgbljhmcoaaDoor.chkM
set_option linter.unusedVariables false
theorem Parts.heap {w w' : World} {B : Nat} {P : Option Addr} {ps : List Part} (h : Parts w B P ps) (e : w'.heap = w.heap) : Parts w' B P ps :=
  ⟨fun hl => by
    obtain ⟨b, o, e1, hb, hc⟩ := h.at_ hl
    exact ⟨b, o, e1, hb, fun i hi => (World.cell?_of_block (w := w) (w' := w') (by rw [e])).trans (hc i hi)⟩, fun p hp => (h.all p hp).heap e⟩
end Go.Proofs.YtniimgbljhmcoaaDoor.chkC

/-
  The walk of the fourth statement.
-/
namespace Go.Proofs.YtniimgbljhmcoaaDoor.chkC
open Go.ChangeShapes Go.WideShapes Go.ChangeAt Go.RowKit
open Go.Proofs.YtniimgbljhmcoaaDoor.memC Go.Proofs.YtniimgbljhmcoaaDoor.chkM
set_option linter.unusedVariables false
theorem byte_info : (Tryd.prog.info? 5).map (fun i => (i.zero, i.size, i.bytes)) = some (some (.int .u8 0), 1, 1) := by kernel_rfl
/-- a number, and what was there stands -/
def NumRet (w : World) (f : Int) (e : Ending) (w' : World) : Prop := e = .returned (.int .u16 f) ∧ Below w.heap.size w w'
theorem sum2_on {w w0 : World} {A A' : Option Addr} {n c n' c' : Nat} {bs bs' : List Int} {f : Int} (B : Below w.heap.size w w0) (h : PartAt w0 w0.heap.size ⟨A, n, c, bs⟩) (h' : PartAt w0 w0.heap.size ⟨A', n', c', bs'⟩) (hf : fo (wsum bs + wsum bs') = f) :
    Calls Tryd.prog 81 #[.slice (some ⟨w0.heap.size, 0, none⟩) 2 2] (w0.alloc (.cells #[.slice A n c, .slice A' n' c'] 32)) (NumRet w f) :=
  (sum_any _ 2 2 _ _ (parts2 h h' 32) (by decide) rfl).mono fun e w' ⟨he, j, hw⟩ =>
    ⟨by rw [he]; exact ret_int (by rw [← hf]; exact congrArg fo (by simp [numsOf, psum])), by rw [hw]; exact bel_drewN (B.trans ((alloc_below w0 _).mono B.size)) j⟩
theorem PartAt.past {w w0 : World} {p : Part} (h : PartAt w w.heap.size p) (B : Below w.heap.size w w0) : PartAt w0 w0.heap.size p := h.below B B.size
end Go.Proofs.YtniimgbljhmcoaaDoor.chkC

/-
  What slices.Grow of nothing, and slices.Concat of some slices of bytes, do.
-/
namespace Go.Proofs.YtniimgbljhmcoaaDoor.chkC
open Go.ChangeShapes Go.WideShapes Go.ChangeAt Go.RowKit
open Go.Proofs.YtniimgbljhmcoaaDoor.memC Go.Proofs.YtniimgbljhmcoaaDoor.chkM
set_option linter.unusedVariables false
def GrowRet (w : World) (n : Nat) (e : Ending) (w' : World) : Prop :=
  ∃ c, e = .returned (.slice (some ⟨w.heap.size, 0, none⟩) 0 c) ∧ n ≤ c ∧ c ≤ maxLen ∧ Own .u8 5 w' w.heap.size (.slice (some ⟨w.heap.size, 0, none⟩) 0 c) [] ∧ Below w.heap.size w w'
set_option maxRecDepth 100000 in
theorem grow_any (n : Nat) (w : World) (h0 : 0 < n) (h1 : n ≤ 1000000) :
    Calls Tryd.prog 63 #[.slice none 0 0, .int .i64 n] w (GrowRet w n) := by
  obtain ⟨i0, hi0, hz0, hz1, hz2⟩ := info_parts byte_info
  have R := Go.Lib.run_append_nil_zeros (P := Tryd.prog) w 32 3 32 5 i0 (.int .u8 0) .i64 .i64 Tryd.underlying32 Tryd.underlying3 hi0 hz0 n h0 (by omega) (by omega) (by rw [hz2]; omega)
  have hge : n ≤ grownCap w n 0 5 := grownCap_ge w _ 0 _
  have hle : grownCap w n 0 5 ≤ maxLen := grownCap_le_maxLen w _ 0 _ (by unfold maxLen; omega)
  obtain ⟨c, hc⟩ : ∃ c, c = grownCap w n 0 5 := ⟨_, rfl⟩
  rw [← hc] at R hge hle
  obtain ⟨Z, hZ⟩ : ∃ Z, Z = (Builtin.zeroCells (Value.int .u8 0).cells n ++ Builtin.zeroCells (Value.int .u8 0).cells (c - n)) := ⟨_, rfl⟩
  rw [← hZ] at R
  have hZs : Z.size = c := by rw [hZ]; simp [size_zeroCells, Value.cells]; omega
  have O : Own .u8 5 (w.drew.alloc (.cells Z 5)) w.heap.size (.slice (some ⟨w.heap.size, 0, none⟩) 0 c) [] :=
    World.ownsRow_made w.drew Z c (Nat.le_refl _) hle (by rw [hZs]; omega)
  have B : Below w.heap.size w (w.drew.alloc (.cells Z 5)) := (Below.refl _ _).drew.alloc (Nat.le_refl _) _
  have RH := Lib.hid R
  have hn : (0 : Int) < n := by omega
  clear hc hZ R hi0 hz0 hz1 hz2 hZs
  go_enter Tryd.func63, Tryd.ntmps63
  go_wp2_with (at_builtin; refine Go.Lib.wpList_append_run _ rfl _ _ _ _ rfl _ _ rfl rfl _ _ RH.out ?_)
  go_ret
  exact ⟨c, rfl, hge, hle, O, B⟩
/-- how many bytes the slices have -/
def nsum : List Part → Nat
  | [] => 0
  | p :: r => p.n + nsum r
theorem nsum_append : ∀ (a b : List Part), nsum (a ++ b) = nsum a + nsum b
  | [], b => by simp [nsum]
  | p :: r, b => by simp only [List.cons_append, nsum, nsum_append r b]; omega
theorem nsum_snoc (ps : List Part) (k : Nat) (h : k < ps.length) : nsum (ps.take (k + 1)) = nsum (ps.take k) + ps[k].n := by
  rw [List.take_succ_eq_append_getElem h, nsum_append]; simp [nsum]
theorem nsum_take (ps : List Part) (k : Nat) : nsum (ps.take k) ≤ nsum ps := by
  have h := nsum_append (ps.take k) (ps.drop k)
  rw [List.take_append_drop] at h
  omega
/-- all their bytes -/
def catL (ps : List Part) : List Int := ps.flatMap Part.bs
theorem catL_snoc (ps : List Part) (k : Nat) (h : k < ps.length) : catL (ps.take (k + 1)) = catL (ps.take k) ++ ps[k].bs := by
  rw [List.take_succ_eq_append_getElem h, catL, List.flatMap_append]; simp [catL]
theorem catL_len {w : World} {B : Nat} : ∀ (ps : List Part), (∀ p ∈ ps, PartAt w B p) → (catL ps).length = nsum ps
  | [], _ => rfl
  | p :: r, h => by
    have h1 := (h p (by simp)).nums.len
    have h2 := catL_len r fun q hq => h q (by simp [hq])
    show (p.bs ++ catL r).length = _
    rw [List.length_append, h1, h2]; rfl
def CatRet (w : World) (T : List Int) (n : Nat) (e : Ending) (w' : World) : Prop :=
  ∃ A c, e = .returned (.slice A n c) ∧ n ≤ c ∧ c ≤ maxLen ∧ Own .u8 5 w' w.heap.size (.slice A n c) T ∧ Below w.heap.size w w'
def CatR (w wr : World) (ps : List Part) (k : Nat) (v : Value) : Prop := Own .u8 5 wr w.heap.size v (catL (ps.take k)) ∧ Below w.heap.size w wr
set_option maxRecDepth 100000 in
set_option maxHeartbeats 1000000 in
theorem concat_any (P : Option Addr) (m c n : Nat) (ps : List Part) (w : World) (hp : Parts w w.heap.size P ps) (hm : m ≤ 100) (hl : ps.length = m) (hn : nsum ps = n) (h0 : 0 < n) (h1 : n ≤ 1000000) :
    Calls Tryd.prog 31 #[.slice P m c] w (CatRet w (catL ps) n) := by
  have HP := Lib.hid hp
  have HL := Lib.hid hl
  have HN := Lib.hid hn
  have CL := Lib.hid (catL_len ps hp.all)
  obtain ⟨i0, hi0, hz0, hz1, hz2⟩ := info_parts byte_info
  have T1 := Lib.hid hi0; have T2 := Lib.hid hz0; have T3 := Lib.hid hz1; have T4 := Lib.hid hz2
  have hG := Lib.hid (grow_any n w h0 h1)
  clear hp hl hn hi0 hz0 hz1 hz2
  go_enter Tryd.func31, Tryd.ntmps31
  go_wp2_with fail
  go_loop [3, 11] (fun t i => ∃ k : Nat, k ≤ m ∧ i = .int .i64 k ∧ t = .int .i64 (nsum (ps.take k) : Nat)) (fun _ i => m - (intOf i).toNat)
  case atStart => exact ⟨0, Nat.zero_le _, rfl, rfl⟩
  case round =>
    obtain ⟨k, hk, rfl, rfl⟩ := hrel
    have hts := nsum_take ps k
    rw [HN.out] at hts
    by_cases hlt : k < m
    · obtain ⟨b, o, rfl, hbb, hcell, hpart⟩ := HP.out.cell (i := k) (by rw [HL.out]; exact hlt)
      have hkl : k < ps.length := by rw [HL.out]; exact hlt
      have HT := Lib.hid (nsum_snoc ps k hkl)
      generalize ps[k] = p at *
      obtain ⟨A, q, c', bs⟩ := p
      have hq := hpart.few
      simp only at hcell HT hq
      generalize nsum (ps.take k) = s at *
      go_wp2_with fail
      go_round
      case rel => exact ⟨k + 1, by omega, by go_num, by rw [HT.out]; go_num⟩
      case measure => simp [intOf]; omega
    · have e : k = m := by omega
      subst e
      have e2 : ps.take k = ps := List.take_of_length_le (by rw [HL.out]; omega)
      rw [e2, HN.out]
      clear hts e2
      go_wp2_with (go_at_call 63; ((with_reducible refine hG.out.mono ?_); rintro e w1 ⟨c1, rfl, g1, g2, O1, B1⟩))
      go_loopw [6, 27] (fun v i wr => ∃ j : Nat, j ≤ k ∧ i = .int .i64 j ∧ CatR w wr ps j v) (fun _ i _ => k - (intOf i).toNat)
      case atStart => exact ⟨0, Nat.zero_le _, rfl, O1, B1⟩
      case round =>
        obtain ⟨j, hj, rfl, O, Bw⟩ := hrel
        by_cases hlt : j < k
        · obtain ⟨b, o, rfl, hbb, hcell, hpart⟩ := HP.out.cell (i := j) (by rw [HL.out]; exact hlt)
          have hkl : j < ps.length := by rw [HL.out]; exact hlt
          have HT := Lib.hid (catL_snoc ps j hkl)
          have HS := Lib.hid (nsum_snoc ps j hkl)
          have hle := nsum_take ps (j + 1)
          have LC := Lib.hid (catL_len (ps.take j) (fun p hp => HP.out.all p (List.mem_of_mem_take hp)))
          rw [HS.out, HN.out] at hle
          generalize ps[j] = p at *
          obtain ⟨A, q, c', bs⟩ := p
          have hq := hpart.few
          simp only at hcell HT hq HS hle
          have cc : wr.cell? ⟨b, o + j, none⟩ = some (.slice A q c') := (Bw.cell (p := ⟨b, o + j, none⟩) hbb).trans hcell
          have NB := hpart.nums.below Bw
          simp only at NB
          clear hcell
          go_wp2_with (first
            | (at_builtin; (refine wpList_app _ rfl (.tmp 31) (.tmp 32) _ rfl 5 i0 _ 1 Tryd.underlying32 T1.out T2.out T3.out T4.out rfl w.heap.size _ (catL (ps.take j)) rfl O w.heap.size A q c' bs rfl NB (by rw [LC.out]; simp only [maxLen]; omega) (by rw [LC.out]; omega) Bw.size ?_)
               intro v' w' O' hg'
               have Bn : Below w.heap.size w w' := Below.grown Bw hg' Bw.size fun g hg => (O.blk g hg).1
               clear hg'))
          go_roundw
          case rel => exact ⟨j + 1, by omega, by go_num, by rw [CatR, HT.out]; exact ⟨O', Bn⟩⟩
          case measure => simp [intOf]; omega
        · have e : j = k := by omega
          subst e
          have e2 : ps.take j = ps := List.take_of_length_le (by rw [HL.out]; omega)
          rw [e2] at O
          obtain ⟨A', c', ev, h1', h2', N⟩ := O.form
          rw [CL.out, HN.out] at ev h1'
          subst ev
          clear e2 N
          go_wp2_with fail
          go_ret
          exact ⟨A', c', rfl, h1', h2', O, Bw⟩
end Go.Proofs.YtniimgbljhmcoaaDoor.chkC

/-
  What Pseudo, Load and Good do.
-/
namespace Go.Proofs.YtniimgbljhmcoaaDoor.chkC
open Go.ChangeShapes Go.WideShapes Go.ChangeAt Go.RowKit
open Go.Proofs.YtniimgbljhmcoaaDoor.memC Go.Proofs.YtniimgbljhmcoaaDoor.chkM
set_option linter.unusedVariables false
/-- an address's cells -/
structure AddrC (cs : Array Value) (six : Bool) (bs : List Int) : Prop where
  size : cs.size = 17
  six : cs[0]? = some (.bool six)
  len : bs.length = 16
  at_ : ∀ i, i < 16 → cs[1 + i]? = some (.int .u8 (bs.getD i 0))
  byte : ∀ x ∈ bs, Byte x
theorem cell_alloc_new (w : World) (cs : Array Value) (T : TypeId) (j : Nat) : (w.alloc (.cells cs T)).cell? ⟨w.heap.size, j, none⟩ = cs[j]? := by
  have h : (w.alloc (.cells cs T)).heap[w.heap.size]? = some (.cells cs T (0, 0)) := heap_alloc_new w _
  exact cell_of_row _ _ j cs T (0, 0) h
theorem alloc_below' (w0 w : World) (o : Obj) (h : w.heap.size = w0.heap.size + 1) : Below (w0.heap.size + 1) w (w.alloc o) := by rw [← h]; exact alloc_below w o
theorem AddrC.nums {cs : Array Value} {six : Bool} {bs : List Int} (h : AddrC cs six bs) (w : World) (T : TypeId) : Nums .u8 (w.alloc (.cells cs T)) (w.heap.size + 1) (some ⟨w.heap.size, 1, none⟩) 16 bs :=
  ⟨h.len, fun _ => ⟨w.heap.size, 1, rfl, Nat.lt_succ_self _, fun i hi => by rw [cell_alloc_new]; exact h.at_ i hi⟩⟩
theorem lit_part (w : World) (ls : List Int) (T : TypeId) (h : ls.length ≤ 10000) (hy : ∀ x ∈ ls, Byte x) :
    PartAt (w.alloc (.cells (ls.map (Value.int .u8)).toArray T)) (w.alloc (.cells (ls.map (Value.int .u8)).toArray T)).heap.size ⟨some ⟨w.heap.size, 0, none⟩, ls.length, ls.length, ls⟩ := by
  refine ⟨⟨rfl, fun _ => ⟨_, 0, rfl, by rw [alloc_size]; exact Nat.lt_succ_self _, fun i hi => ?_⟩⟩, h, hy⟩
  have hi' : i < ls.length := hi
  rw [Nat.zero_add, cell_alloc_new]
  simp [List.getD_eq_getElem?_getD, hi']
theorem concat3 {W : World} {A1 A2 : Option Addr} {n1 c1 n2 c2 : Nat} {b1 b2 : List Int} (ls : List Int) (cs : Array Value) (L n : Nat) (h1 : PartAt W W.heap.size ⟨A1, n1, c1, b1⟩) (h2 : PartAt W W.heap.size ⟨A2, n2, c2, b2⟩)
    (hcs : (ls.map (Value.int .u8)).toArray = cs) (hL : ls.length = L) (hL2 : L ≤ 10000) (hy : ∀ x ∈ ls, Byte x) (hn : n1 + (n2 + L) = n) (h0 : 0 < n) :
    Calls Tryd.prog 31 #[.slice (some ⟨W.heap.size + 1, 0, none⟩) 3 3]
      ((W.alloc (.cells cs 5)).alloc (.cells #[.slice A1 n1 c1, .slice A2 n2 c2, .slice (some ⟨W.heap.size, 0, none⟩) L L] 32)).drew (CatRet W (b1 ++ (b2 ++ ls)) n) := by
  subst hL
  have P3 := lit_part W ls 5 hL2 hy
  rw [hcs] at P3
  have PP := parts3 (h1.alloc (.cells cs 5)) (h2.alloc (.cells cs 5)) P3 32
  have f1 := h1.few
  have f2 := h2.few
  simp only at f1 f2
  have PQ := PP.heap (w' := ((W.alloc (.cells cs 5)).alloc (.cells #[.slice A1 n1 c1, .slice A2 n2 c2, .slice (some ⟨W.heap.size, 0, none⟩) ls.length ls.length] 32)).drew) rfl
  have C := concat_any _ 3 3 n _ _ PQ (by decide) rfl (by simp [nsum]; exact hn) h0 (by omega)
  rw [alloc_size] at C
  have B : Below W.heap.size W ((W.alloc (.cells cs 5)).alloc (.cells #[.slice A1 n1 c1, .slice A2 n2 c2, .slice (some ⟨W.heap.size, 0, none⟩) ls.length ls.length] 32)).drew := (((Below.refl _ _).alloc (Nat.le_refl _) _).alloc (by simp) _).drew
  refine C.mono fun e w' ⟨A, c, he, g1, g2, O, Bw⟩ => ⟨A, c, he, g1, g2, ?_, B.trans (Bw.mono B.size)⟩
  have := O.less B.size
  simpa [catL] using this
set_option maxRecDepth 100000 in
set_option maxHeartbeats 1000000 in
theorem pseudo_six (cs1 cs2 : Array Value) (s1 s2 : Bool) (b1 b2 : List Int) (p n : Int) (w : World) (h1 : AddrC cs1 s1 b1) (h2 : AddrC cs2 s2 b2) (hs : (s1 || s2) = true) (p0 : 0 ≤ p) (p1 : p ≤ 255) (n0 : 0 ≤ n) (n1 : n ≤ 10000) :
    Calls Tryd.prog 65 #[.agg cs1, .agg cs2, .int .u8 p, .int .i64 n] w (CatRet w (b1 ++ (b2 ++ [n / 16777216, n / 65536, n / 256, n % 256, 0, 0, 0, p])) 40) := by
  have hz : (w.alloc (.cells cs1 24)).heap.size = w.heap.size + 1 := alloc_size _ _
  have N1 := (h1.nums w 24).below (alloc_below' w (w.alloc (.cells cs1 24)) (.cells cs2 24) hz)
  have N2 := h2.nums (w.alloc (.cells cs1 24)) 24
  rw [hz] at N2
  have k1 : ((w.alloc (.cells cs1 24)).alloc (.cells cs2 24)).cell? ⟨w.heap.size, 0, none⟩ = some (.bool s1) := by
    rw [(alloc_below' w (w.alloc (.cells cs1 24)) (.cells cs2 24) hz).cell (Nat.lt_succ_self _), cell_alloc_new, h1.six]
  have k2 : ((w.alloc (.cells cs1 24)).alloc (.cells cs2 24)).cell? ⟨w.heap.size + 1, 0, none⟩ = some (.bool s2) := by
    have := cell_alloc_new (w.alloc (.cells cs1 24)) cs2 24 0
    rw [hz] at this
    rw [this, h2.six]
  have HZ := Lib.hid hz
  clear hz
  cases s1 <;> cases s2
  all_goals try (exfalso; cases hs; done)
  all_goals
    clear hs
    go_enter Tryd.func65, Tryd.ntmps65
    go_wp2_with fail
    have P1 : PartAt ((w.alloc (.cells cs1 24)).alloc (.cells cs2 24)) ((w.alloc (.cells cs1 24)).alloc (.cells cs2 24)).heap.size ⟨some ⟨w.heap.size, 1, none⟩, 16, 16, b1⟩ :=
      ⟨N1.more (by rw [alloc_size, HZ.out]; omega), (show 16 ≤ 10000 by decide), h1.byte⟩
    have P2 : PartAt ((w.alloc (.cells cs1 24)).alloc (.cells cs2 24)) ((w.alloc (.cells cs1 24)).alloc (.cells cs2 24)).heap.size ⟨some ⟨w.heap.size + 1, 1, none⟩, 16, 16, b2⟩ :=
      ⟨N2.more (by rw [alloc_size, HZ.out]; omega), (show 16 ≤ 10000 by decide), h2.byte⟩
    have BW : Below w.heap.size w ((w.alloc (.cells cs1 24)).alloc (.cells cs2 24)) := ((Below.refl _ _).alloc (Nat.le_refl _) _).alloc (by simp) _
    clear N1 N2 k1 k2 HZ
    generalize (w.alloc (.cells cs1 24)).alloc (.cells cs2 24) = W at *
    have e1 : IntKind.u8.wrap (n / 16777216) = n / 16777216 := IntWalk.u8_in _ (by omega)
    have e2 : IntKind.u8.wrap (n / 65536) = n / 65536 := IntWalk.u8_in _ (by omega)
    have e3 : IntKind.u8.wrap (n / 256) = n / 256 := IntWalk.u8_in _ (by omega)
    have e4 : IntKind.u8.wrap n = n % 256 := IntKind.wrap_u8 n
    go_region_with (first
      | (go_at_call 31
         (refine (concat3 [n / 16777216, n / 65536, n / 256, n % 256, 0, 0, 0, p] _ 8 40 P1 P2 rfl rfl (by decide) (by simp [Byte]; omega) rfl (by decide)).mono ?_)
         rintro e w3 ⟨A3, c3, rfl, g1, g2, O3, B3⟩))
    clear P1 P2
    go_wp2_with fail
    go_ret
    exact ⟨A3, c3, rfl, g1, g2, O3.less BW.size, BW.trans (B3.mono BW.size)⟩
set_option maxRecDepth 100000 in
set_option maxHeartbeats 1000000 in
theorem pseudo_four (cs1 cs2 : Array Value) (s1 s2 : Bool) (b1 b2 : List Int) (p n : Int) (w : World) (h1 : AddrC cs1 s1 b1) (h2 : AddrC cs2 s2 b2) (hs : (s1 || s2) = false) (p0 : 0 ≤ p) (p1 : p ≤ 255) (n0 : 0 ≤ n) (n1 : n ≤ 10000) :
    Calls Tryd.prog 65 #[.agg cs1, .agg cs2, .int .u8 p, .int .i64 n] w (CatRet w (b1.take 4 ++ (b2.take 4 ++ [0, p, n / 256, n % 256])) 12) := by
  have hz : (w.alloc (.cells cs1 24)).heap.size = w.heap.size + 1 := alloc_size _ _
  have N1 := (h1.nums w 24).below (alloc_below' w (w.alloc (.cells cs1 24)) (.cells cs2 24) hz)
  have N2 := h2.nums (w.alloc (.cells cs1 24)) 24
  rw [hz] at N2
  have k1 : ((w.alloc (.cells cs1 24)).alloc (.cells cs2 24)).cell? ⟨w.heap.size, 0, none⟩ = some (.bool s1) := by
    rw [(alloc_below' w (w.alloc (.cells cs1 24)) (.cells cs2 24) hz).cell (Nat.lt_succ_self _), cell_alloc_new, h1.six]
  have k2 : ((w.alloc (.cells cs1 24)).alloc (.cells cs2 24)).cell? ⟨w.heap.size + 1, 0, none⟩ = some (.bool s2) := by
    have := cell_alloc_new (w.alloc (.cells cs1 24)) cs2 24 0
    rw [hz] at this
    rw [this, h2.six]
  have HZ := Lib.hid hz
  clear hz
  cases s1 <;> cases s2
  all_goals try (exfalso; cases hs; done)
  all_goals
    clear hs
    go_enter Tryd.func65, Tryd.ntmps65
    go_wp2_with fail
    have P1 : PartAt ((w.alloc (.cells cs1 24)).alloc (.cells cs2 24)) ((w.alloc (.cells cs1 24)).alloc (.cells cs2 24)).heap.size ⟨some ⟨w.heap.size, 1, none⟩, 4, 16, b1.take 4⟩ :=
      ⟨(N1.upto (show 4 ≤ 16 by decide)).more (by rw [alloc_size, HZ.out]; omega), (show 4 ≤ 10000 by decide), take_byte h1.byte 4⟩
    have P2 : PartAt ((w.alloc (.cells cs1 24)).alloc (.cells cs2 24)) ((w.alloc (.cells cs1 24)).alloc (.cells cs2 24)).heap.size ⟨some ⟨w.heap.size + 1, 1, none⟩, 4, 16, b2.take 4⟩ :=
      ⟨(N2.upto (show 4 ≤ 16 by decide)).more (by rw [alloc_size, HZ.out]; omega), (show 4 ≤ 10000 by decide), take_byte h2.byte 4⟩
    have BW : Below w.heap.size w ((w.alloc (.cells cs1 24)).alloc (.cells cs2 24)) := ((Below.refl _ _).alloc (Nat.le_refl _) _).alloc (by simp) _
    clear N1 N2 k1 k2 HZ
    generalize (w.alloc (.cells cs1 24)).alloc (.cells cs2 24) = W at *
    have e3 : IntKind.u8.wrap (n / 256) = n / 256 := IntWalk.u8_in _ (by omega)
    have e4 : IntKind.u8.wrap n = n % 256 := IntKind.wrap_u8 n
    go_region_with (first
      | (go_at_call 31
         (refine (concat3 [0, p, n / 256, n % 256] _ 4 12 P1 P2 rfl rfl (by decide) (by simp [Byte]; omega) rfl (by decide)).mono ?_)
         rintro e w3 ⟨A3, c3, rfl, g1, g2, O3, B3⟩))
    clear P1 P2
    go_wp2_with fail
    go_ret
    exact ⟨A3, c3, rfl, g1, g2, O3.less BW.size, BW.trans (B3.mono BW.size)⟩
end Go.Proofs.YtniimgbljhmcoaaDoor.chkC

/-
  What Load and Good do.
-/
namespace Go.Proofs.YtniimgbljhmcoaaDoor.chkC
open Go.ChangeShapes Go.WideShapes Go.ChangeAt Go.RowKit
open Go.Proofs.YtniimgbljhmcoaaDoor.memC Go.Proofs.YtniimgbljhmcoaaDoor.chkM
set_option linter.unusedVariables false
theorem addr_info : (Tryd.prog.info? 24).map (·.size) = some 17 := by kernel_rfl
theorem check2_on {w w0 : World} {A A' : Option Addr} {n c n' c' : Nat} {bs bs' : List Int} {f : Int} (B : Below w.heap.size w w0) (h : PartAt w0 w0.heap.size ⟨A, n, c, bs⟩) (h' : PartAt w0 w0.heap.size ⟨A', n', c', bs'⟩) (hf : 65535 - fo (wsum bs + wsum bs') = f) :
    Calls Tryd.prog 64 #[.slice (some ⟨w0.heap.size, 0, none⟩) 2 2] (w0.alloc (.cells #[.slice A n c, .slice A' n' c'] 32)) (NumRet w f) :=
  (check_any _ 2 2 _ _ (parts2 h h' 32) (by decide) rfl).mono fun e w' ⟨he, j, hw⟩ =>
    ⟨by rw [he]; exact ret_int (by rw [← hf]; simp [ckZ, numsOf, psum]), by rw [hw]; exact bel_drewN (B.trans ((alloc_below w0 _).mono B.size)) j⟩
set_option maxRecDepth 100000 in
set_option maxHeartbeats 1000000 in
theorem load_any (cs1 cs2 : Array Value) (p : Int) (A : Option Addr) (n c N : Nat) (T bs : List Int) (f : Int) (w : World) (z1 : cs1.size = 17) (z2 : cs2.size = 17) (hN : N ≤ 100) (hT : ∀ x ∈ T, Byte x)
    (hP : ∀ w, Calls Tryd.prog 65 #[.agg cs1, .agg cs2, .int .u8 p, .int .i64 n] w (CatRet w T N)) (hb : PartAt w w.heap.size ⟨A, n, c, bs⟩) (hf : 65535 - fo (wsum T + wsum bs) = f) :
    Calls Tryd.prog 32 #[.agg cs1, .agg cs2, .int .u8 p, .slice A n c] w (NumRet w f) := by
  have g1 := heap_alloc2_old w (.cells cs1 24) (.cells cs2 24)
  have g2 := heap_alloc2_new w (.cells cs1 24) (.cells cs2 24)
  have u1 : (Tryd.prog.info? 24).map (·.size) = some cs1.size := by rw [z1]; exact addr_info
  have u2 : (Tryd.prog.info? 24).map (·.size) = some cs2.size := by rw [z2]; exact addr_info
  have BW : Below w.heap.size w ((w.alloc (.cells cs1 24)).alloc (.cells cs2 24)) := ((Below.refl _ _).alloc (Nat.le_refl _) _).alloc (by simp) _
  have hn := hb.few
  simp only at hn
  have G1 := Lib.hid g1; have G2 := Lib.hid g2; have U1 := Lib.hid u1; have U2 := Lib.hid u2
  have PP := Lib.hid hP
  have HF := Lib.hid hf
  clear g1 g2 u1 u2 z1 z2 hf hP
  go_enter Tryd.func32, Tryd.ntmps32
  go_wp2_with (first
    | (refine wpList_load_row rfl 24 (.tmp 4) rfl w.heap.size rfl _ cs1 _ _ G1.out Tryd.underlying24 rfl U1.out ?_)
    | (refine wpList_load_row rfl 24 (.tmp 5) rfl (w.heap.size + 1) rfl _ cs2 _ _ G2.out Tryd.underlying24 rfl U2.out ?_)
    | (go_at_call 65; (refine (PP.out _).mono ?_)
       rintro e w3 ⟨A3, c3, rfl, g1, g2, O3, B3⟩
       have B4 : Below w.heap.size w w3 := BW.trans (B3.mono BW.size)
       have P3 : PartAt w3 w3.heap.size ⟨A3, N, c3, T⟩ := ⟨O3.nums, by show N ≤ 10000; omega, hT⟩)
    | (go_at_call 64; ((with_reducible refine (check2_on B4 P3 (hb.past B4) HF.out).mono ?_); rintro e w5 ⟨rfl, B5⟩)))
  go_ret
  exact ⟨rfl, B5⟩
set_option maxRecDepth 100000 in
set_option maxHeartbeats 1000000 in
theorem good_any (cs1 cs2 : Array Value) (p : Int) (A : Option Addr) (n c N : Nat) (T bs : List Int) (f : Int) (w : World) (z1 : cs1.size = 17) (z2 : cs2.size = 17) (hN : N ≤ 100) (hT : ∀ x ∈ T, Byte x)
    (hP : ∀ w, Calls Tryd.prog 65 #[.agg cs1, .agg cs2, .int .u8 p, .int .i64 n] w (CatRet w T N)) (hb : PartAt w w.heap.size ⟨A, n, c, bs⟩) (hf : fo (wsum T + wsum bs) = f) :
    Calls Tryd.prog 45 #[.agg cs1, .agg cs2, .int .u8 p, .slice A n c] w (fun e w' => e = .returned (.bool (decide (f = 65535))) ∧ Below w.heap.size w w') := by
  have g1 := heap_alloc2_old w (.cells cs1 24) (.cells cs2 24)
  have g2 := heap_alloc2_new w (.cells cs1 24) (.cells cs2 24)
  have u1 : (Tryd.prog.info? 24).map (·.size) = some cs1.size := by rw [z1]; exact addr_info
  have u2 : (Tryd.prog.info? 24).map (·.size) = some cs2.size := by rw [z2]; exact addr_info
  have BW : Below w.heap.size w ((w.alloc (.cells cs1 24)).alloc (.cells cs2 24)) := ((Below.refl _ _).alloc (Nat.le_refl _) _).alloc (by simp) _
  have hn := hb.few
  simp only at hn
  have G1 := Lib.hid g1; have G2 := Lib.hid g2; have U1 := Lib.hid u1; have U2 := Lib.hid u2
  have PP := Lib.hid hP
  have HF := Lib.hid hf
  clear g1 g2 u1 u2 z1 z2 hf hP
  go_enter Tryd.func45, Tryd.ntmps45
  go_wp2_with (first
    | (refine wpList_load_row rfl 24 (.tmp 4) rfl w.heap.size rfl _ cs1 _ _ G1.out Tryd.underlying24 rfl U1.out ?_)
    | (refine wpList_load_row rfl 24 (.tmp 5) rfl (w.heap.size + 1) rfl _ cs2 _ _ G2.out Tryd.underlying24 rfl U2.out ?_)
    | (go_at_call 65; (refine (PP.out _).mono ?_)
       rintro e w3 ⟨A3, c3, rfl, g1, g2, O3, B3⟩
       have B4 : Below w.heap.size w w3 := BW.trans (B3.mono BW.size)
       have P3 : PartAt w3 w3.heap.size ⟨A3, N, c3, T⟩ := ⟨O3.nums, by show N ≤ 10000; omega, hT⟩)
    | (go_at_call 81; ((with_reducible refine (sum2_on B4 P3 (hb.past B4) HF.out).mono ?_); rintro e w5 ⟨rfl, B5⟩)))
  go_ret
  exact ⟨ret_bool (by first | rfl | simp), B5⟩
end Go.Proofs.YtniimgbljhmcoaaDoor.chkC

/-
  A segment is parsed: the program's. What the closure does, and the pseudo header over numbers.
-/
namespace Go.Proofs.YtniimgbljhmcoaaDoor.sgC
open Go.ChangeShapes Go.WideShapes Go.ChangeAt Go.RowKit
open Go.Proofs.YtniimgbljhmcoaaDoor.memC Go.Proofs.YtniimgbljhmcoaaDoor.genC Go.Proofs.YtniimgbljhmcoaaDoor.butC Go.Proofs.YtniimgbljhmcoaaDoor.freeC Go.Proofs.YtniimgbljhmcoaaDoor.adC
open Go.Proofs.YtniimgbljhmcoaaDoor.octC (Fr Rd RdD stopped getZ)
open Go.Proofs.YtniimgbljhmcoaaDoor.opC (Kd OwnP optV fr_less fr_row rd_ofD rdD_fr rdD_of)
set_option linter.unusedVariables false
/-- the pseudo header -/
def pseL (s1 s2 : Bool) (b1 b2 : List Int) (p n : Int) : List Int := if (s1 || s2) = true then b1 ++ (b2 ++ [n / 16777216, n / 65536, n / 256, n % 256, 0, 0, 0, p]) else b1.take 4 ++ (b2.take 4 ++ [0, p, n / 256, n % 256])
def pseN (s1 s2 : Bool) : Nat := if (s1 || s2) = true then 40 else 12
theorem pseN_le (s1 s2 : Bool) : pseN s1 s2 ≤ 100 := by unfold pseN; split <;> decide
section
variable {C1 C2 : Array Value} {s1 s2 : Bool} {b1 b2 : List Int} {p n : Int}
theorem pse_byte (h1 : chkC.AddrC C1 s1 b1) (h2 : chkC.AddrC C2 s2 b2) (p0 : 0 ≤ p) (p1 : p ≤ 255) (n0 : 0 ≤ n) (n1 : n ≤ 10000) : ∀ x ∈ pseL s1 s2 b1 b2 p n, Byte x := by
  intro x hx
  unfold pseL at hx
  split at hx
  · rcases List.mem_append.1 hx with hx | hx
    · exact h1.byte x hx
    · rcases List.mem_append.1 hx with hx | hx
      · exact h2.byte x hx
      · revert x; simp [Byte]; omega
  · rcases List.mem_append.1 hx with hx | hx
    · exact h1.byte x (List.mem_of_mem_take hx)
    · rcases List.mem_append.1 hx with hx | hx
      · exact h2.byte x (List.mem_of_mem_take hx)
      · revert x; simp [Byte]; omega
theorem pse_len (h1 : chkC.AddrC C1 s1 b1) (h2 : chkC.AddrC C2 s2 b2) : (pseL s1 s2 b1 b2 p n).length = pseN s1 s2 := by
  have l1 := h1.len
  have l2 := h2.len
  unfold pseL pseN
  split <;> simp [l1, l2]
theorem pse_any (h1 : chkC.AddrC C1 s1 b1) (h2 : chkC.AddrC C2 s2 b2) (p0 : 0 ≤ p) (p1 : p ≤ 255) (n0 : 0 ≤ n) (n1 : n ≤ 10000) (w : World) :
    Calls Tryd.prog 65 #[.agg C1, .agg C2, .int .u8 p, .int .i64 n] w (chkC.CatRet w (pseL s1 s2 b1 b2 p n) (pseN s1 s2)) := by
  unfold pseL pseN
  by_cases hs : (s1 || s2) = true
  · rw [if_pos hs, if_pos hs]
    exact chkC.pseudo_six C1 C2 s1 s2 b1 b2 p n w h1 h2 hs p0 p1 n0 n1
  · rw [if_neg hs, if_neg hs]
    exact chkC.pseudo_four C1 C2 s1 s2 b1 b2 p n w h1 h2 (by simpa using hs) p0 p1 n0 n1
end
/-- the sum of a load with its pseudo header -/
def sumG (s1 s2 : Bool) (b1 b2 bs : List Int) : Int := chkM.fo (chkM.wsum (pseL s1 s2 b1 b2 6 (bs.length : Nat)) + chkM.wsum bs)
def goodG (s1 s2 : Bool) (b1 b2 bs : List Int) : Bool := decide (sumG s1 s2 b1 b2 bs = 65535)
theorem good_any {C1 C2 : Array Value} {s1 s2 : Bool} {b1 b2 : List Int} (A : Option Addr) (n c : Nat) (bs : List Int) (w : World) (h1 : chkC.AddrC C1 s1 b1) (h2 : chkC.AddrC C2 s2 b2) (hb : Nums .u8 w w.heap.size A n bs) (hn : n ≤ 9000) (hy : ∀ x ∈ bs, Byte x) :
    Calls Tryd.prog 45 #[.agg C1, .agg C2, .int .u8 6, .slice A n c] w (Ret w (.bool (goodG s1 s2 b1 b2 bs))) := by
  have hl := hb.len
  refine (chkC.good_any C1 C2 6 A n c (pseN s1 s2) (pseL s1 s2 b1 b2 6 (bs.length : Nat)) bs (sumG s1 s2 b1 b2 bs) w h1.size h2.size (pseN_le s1 s2) (pse_byte h1 h2 (by decide) (by decide) (by omega) (by omega)) (fun w' => ?_) ⟨hb, (by show n ≤ 10000; omega), hy⟩ rfl).mono fun e w' h => h
  rw [← hl]
  exact pse_any h1 h2 (by decide) (by decide) (by omega) (by omega) w'
theorem Kd.stay {w w' : World} {b : Nat} (h : Kd w) (hg : 0 < b) (hs : w.heap.size ≤ w'.heap.size) (hb : ∀ k, k < b → w'.heap[k]? = w.heap[k]?) : Kd w' :=
  ⟨fun j v hv => (World.cell?_of_block (w := w) (hb _ hg)).trans (h.cell j v hv), Nat.lt_of_lt_of_le h.lt hs⟩
/-- a call as an operation of a region, which may end in a panic -/
theorem free_call2 {P : Program} {o : Oper} {a : Act} {w : World} {K : Act → World → Prop} {Q : Exit → Act → World → Prop} {f : FuncId} {args : Array Value} (hr : (execOp a.eval o).run P w = .ok (.enter f args) w)
    (h : Calls P f args w fun e w' => (∃ v, e = .returned v ∧ K (a.put o.dst v) w') ∨ (∃ c, e = .panicked c ∧ Q (.panic c) a w')) : o.wp P a w K Q := by
  unfold Oper.wp; rw [hr, Oper.upon_enter]
  refine h.mono fun e w' h => ?_
  rcases h with ⟨v, he, hk⟩ | ⟨c, he, hk⟩
  · subst he; exact hk
  · subst he; exact hk
theorem sgP_four (good : Bool) (bs : List Int) (h : (sgP good bs).1 = 4) : (sgP good bs).2 = (zSg, []) := by
  unfold sgP at h ⊢
  split
  · rfl
  · split
    · rfl
    · split
      · rfl
      · split
        · rfl
        · split
          · rfl
          · rename_i h1 h2 h3 h4 h5
            rw [if_neg h1, if_neg h2, if_neg h3, if_neg h4, if_neg h5] at h
            split at h
            · cases h
            · cases h
theorem sgP_mac (good : Bool) {bs : List Int} (hy : ∀ x ∈ bs, Byte x) : (sgP good bs).2.1.op.mac.length = 12 := by
  unfold sgP
  have hpm : ∀ l : List Int, (∀ x ∈ l, Byte x) → (opC.psO l).mac.length = 12 := fun l hl2 => by
    rcases opC.ps_good hl2 with h | h
    · exact h.2.ok.lm
    · rw [h.2]; rfl
  split
  · rfl
  · split
    · rfl
    · split
      · rfl
      · split
        · rfl
        · split
          · rfl
          · split
            · exact hpm _ (fun x hx => hy x (by unfold sgO at hx; exact List.mem_of_mem_drop (List.mem_of_mem_take hx)))
            · rfl
/-- while the closure reads -/
structure CJ (w0 : World) (bo be : Nat) (SL : Value) (C1 C2 Z : Array Value) (gd : Bool) (P : Int × Sg × List Int) (bs : List Int) (p : Nat) (A : Option Addr) (n c : Nat) (B : Option Addr) (mm d : Nat) (m : Nat → Bool) (us : Nat → Value) (w : World) : Prop where
  fr : Fr (fun k => k = bo ∨ k = be) w0 w
  v0 : m 0 = true → us 0 = SL
  v1 : m 1 = true → us 1 = .pointer (some ⟨p, 0, none⟩) ∧ w0.heap.size ≤ p
  rd : m 1 = true → m 6 = false → Rd w p bs
  v2 : m 2 = true → us 2 = .agg C1
  v3 : m 3 = true → us 3 = .agg C2
  v4 : m 4 = true → us 4 = SL
  v5 : m 5 = true → us 5 = .bool gd
  v6 : m 6 = true → us 6 = .tuple #[.agg (segV P.2.1 A n c B mm d), .int .i64 P.1]
  o6 : m 6 = true → P.1 ≠ 4 ∧ P.2.1.op.sk.length = n ∧ OwnP w w0.heap.size (.slice A n c) P.2.1.op.sk ∧ Own .u8 5 w w0.heap.size (.slice B mm d) P.2.2
  v7 : m 7 = true → us 7 = .tuple #[.agg (segV P.2.1 A n c B mm d), .int .i64 P.1]
  v8 : m 8 = true → us 8 = .agg (segV P.2.1 A n c B mm d)
  v9 : m 9 = true → us 9 = .int .i64 P.1
  r10 : w.heap[bo]? = some (.cells (if m 10 = true then segV P.2.1 A n c B mm d else Z) 34 (0, 0))
  r11 : w.cell? ⟨be, 0, none⟩ = some (.int .i64 (if m 11 = true then P.1 else 0))
  f11 : w.frozen? ⟨be, 0, none⟩ = false
  q7 : m 7 = true → m 6 = true
  q8 : m 8 = true → m 6 = true
  q10 : m 10 = true → m 6 = true
  q11 : m 11 = true → m 6 = true
  lo : bo < w0.heap.size
  le : be < w0.heap.size
section
variable {w0 : World} {bo be : Nat} {SL : Value} {C1 C2 Z : Array Value} {gd : Bool} {P : Int × Sg × List Int} {bs : List Int} {p : Nat} {A : Option Addr} {n c : Nat} {B : Option Addr} {mm d : Nat} {m : Nat → Bool} {us : Nat → Value} {w w' : World}
theorem CJ.ext (h : CJ w0 bo be SL C1 C2 Z gd P bs p A n c B mm d m us w) (hb : Below w.heap.size w w') : CJ w0 bo be SL C1 C2 Z gd P bs p A n c B mm d m us w' := by
  have h1 := h.fr.size
  have h2 := h.lo
  have h3 := h.le
  exact ⟨h.fr.trans (Fr.below hb), h.v0, h.v1, fun a b => (h.rd a b).below hb, h.v2, h.v3, h.v4, h.v5, h.v6, fun a => ⟨(h.o6 a).1, (h.o6 a).2.1, OwnP.below (ps := P.2.1.op.sk) (h.o6 a).2.2.1 hb, (h.o6 a).2.2.2.below hb⟩, h.v7, h.v8, h.v9, (hb.block _ (by omega)).trans h.r10,
    (hb.cell (p := ⟨be, 0, none⟩) (show be < w.heap.size by omega)).trans h.r11, (hb.frozen (p := ⟨be, 0, none⟩) (show be < w.heap.size by omega)).trans h.f11, h.q7, h.q8, h.q10, h.q11, h.lo, h.le⟩
theorem CJ.s0 (h : CJ w0 bo be SL C1 C2 Z gd P bs p A n c B mm d m us w) : CJ w0 bo be SL C1 C2 Z gd P bs p A n c B mm d (upd m 0 true) (upd us 0 (SL)) w := by
  exact ⟨h.fr, fun _ => rfl, h.v1, h.rd, h.v2, h.v3, h.v4, h.v5, h.v6, h.o6, h.v7, h.v8, h.v9, h.r10, h.r11, h.f11, h.q7, h.q8, h.q10, h.q11, h.lo, h.le⟩
theorem CJ.s2 (h : CJ w0 bo be SL C1 C2 Z gd P bs p A n c B mm d m us w) : CJ w0 bo be SL C1 C2 Z gd P bs p A n c B mm d (upd m 2 true) (upd us 2 (.agg C1)) w := by
  exact ⟨h.fr, h.v0, h.v1, h.rd, fun _ => rfl, h.v3, h.v4, h.v5, h.v6, h.o6, h.v7, h.v8, h.v9, h.r10, h.r11, h.f11, h.q7, h.q8, h.q10, h.q11, h.lo, h.le⟩
theorem CJ.s3 (h : CJ w0 bo be SL C1 C2 Z gd P bs p A n c B mm d m us w) : CJ w0 bo be SL C1 C2 Z gd P bs p A n c B mm d (upd m 3 true) (upd us 3 (.agg C2)) w := by
  exact ⟨h.fr, h.v0, h.v1, h.rd, h.v2, fun _ => rfl, h.v4, h.v5, h.v6, h.o6, h.v7, h.v8, h.v9, h.r10, h.r11, h.f11, h.q7, h.q8, h.q10, h.q11, h.lo, h.le⟩
theorem CJ.s4 (h : CJ w0 bo be SL C1 C2 Z gd P bs p A n c B mm d m us w) : CJ w0 bo be SL C1 C2 Z gd P bs p A n c B mm d (upd m 4 true) (upd us 4 (SL)) w := by
  exact ⟨h.fr, h.v0, h.v1, h.rd, h.v2, h.v3, fun _ => rfl, h.v5, h.v6, h.o6, h.v7, h.v8, h.v9, h.r10, h.r11, h.f11, h.q7, h.q8, h.q10, h.q11, h.lo, h.le⟩
theorem CJ.s5 (h : CJ w0 bo be SL C1 C2 Z gd P bs p A n c B mm d m us w) : CJ w0 bo be SL C1 C2 Z gd P bs p A n c B mm d (upd m 5 true) (upd us 5 (.bool gd)) w := by
  exact ⟨h.fr, h.v0, h.v1, h.rd, h.v2, h.v3, h.v4, fun _ => rfl, h.v6, h.o6, h.v7, h.v8, h.v9, h.r10, h.r11, h.f11, h.q7, h.q8, h.q10, h.q11, h.lo, h.le⟩
theorem CJ.s1 (h : CJ w0 bo be SL C1 C2 Z gd P bs p A n c B mm d m us w) {q : Nat} (hq : w0.heap.size ≤ q) (hr : Rd w q bs) : CJ w0 bo be SL C1 C2 Z gd P bs q A n c B mm d (upd m 1 true) (upd us 1 (.pointer (some ⟨q, 0, none⟩))) w := by
  exact ⟨h.fr, h.v0, fun _ => ⟨rfl, hq⟩, fun _ _ => hr, h.v2, h.v3, h.v4, h.v5, h.v6, h.o6, h.v7, h.v8, h.v9, h.r10, h.r11, h.f11, h.q7, h.q8, h.q10, h.q11, h.lo, h.le⟩
theorem CJ.s6 (h : CJ w0 bo be SL C1 C2 Z gd P bs p A n c B mm d m us w) (hm : m 6 = false) (h1 : m 1 = true) {A' : Option Addr} {n' c' : Nat} {B' : Option Addr} {m' d' : Nat} (h4 : P.1 ≠ 4) (hl : P.2.1.op.sk.length = n') (hP : OwnP w' w.heap.size (.slice A' n' c') P.2.1.op.sk) (hO : Own .u8 5 w' w.heap.size (.slice B' m' d') P.2.2) (F : Fr (· = p) w w') :
    CJ w0 bo be SL C1 C2 Z gd P bs p A' n' c' B' m' d' (upd m 6 true) (upd us 6 (.tuple #[.agg (segV P.2.1 A' n' c' B' m' d'), .int .i64 P.1])) w' := by
  have s1 := h.fr.size
  have s2 := h.lo
  have s3 := h.le
  have s4 := (h.v1 h1).2
  have no : ∀ k, m k = true → (m k = true → m 6 = true) → False := fun k hk hq => by rw [hq hk] at hm; cases hm
  have n10 : m 10 = false := by cases hh : m 10 with
    | false => rfl
    | true => exact (no 10 hh h.q10).elim
  have n11 : m 11 = false := by cases hh : m 11 with
    | false => rfl
    | true => exact (no 11 hh h.q11).elim
  refine ⟨fr_less h.fr F (fun k hk e => by have e2 : k = p := e; omega), h.v0, h.v1, fun _ e => (by cases e), h.v2, h.v3, h.v4, h.v5, fun _ => rfl, fun _ => ⟨h4, hl, OwnP.less hP s1, hO.less s1⟩, fun a => (no 7 a h.q7).elim, fun a => (no 8 a h.q8).elim, h.v9, ?_, ?_, ?_, fun _ => rfl, fun _ => rfl, fun _ => rfl, fun _ => rfl, h.lo, h.le⟩
  · rw [F.block bo (by omega) (by show ¬ bo = p; omega)]
    have := h.r10
    rw [n10] at this
    show w.heap[bo]? = some (.cells (if m 10 = true then _ else Z) 34 (0, 0))
    rw [n10]; exact this
  · rw [World.cell?_of_block (w := w) (F.block be (by omega) (by show ¬ be = p; omega))]
    exact h.r11
  · rw [World.frozen?_of_block (w := w) (F.block be (by omega) (by show ¬ be = p; omega))]
    exact h.f11
theorem CJ.s7 (h : CJ w0 bo be SL C1 C2 Z gd P bs p A n c B mm d m us w) (h6 : m 6 = true) : CJ w0 bo be SL C1 C2 Z gd P bs p A n c B mm d (upd m 7 true) (upd us 7 (.tuple #[.agg (segV P.2.1 A n c B mm d), .int .i64 P.1])) w := by
  exact ⟨h.fr, h.v0, h.v1, h.rd, h.v2, h.v3, h.v4, h.v5, h.v6, h.o6, fun _ => rfl, h.v8, h.v9, h.r10, h.r11, h.f11, fun _ => h6, h.q8, h.q10, h.q11, h.lo, h.le⟩
theorem CJ.s8 (h : CJ w0 bo be SL C1 C2 Z gd P bs p A n c B mm d m us w) (h6 : m 6 = true) : CJ w0 bo be SL C1 C2 Z gd P bs p A n c B mm d (upd m 8 true) (upd us 8 (.agg (segV P.2.1 A n c B mm d))) w := by
  exact ⟨h.fr, h.v0, h.v1, h.rd, h.v2, h.v3, h.v4, h.v5, h.v6, h.o6, h.v7, fun _ => rfl, h.v9, h.r10, h.r11, h.f11, h.q7, fun _ => h6, h.q10, h.q11, h.lo, h.le⟩
theorem CJ.s9 (h : CJ w0 bo be SL C1 C2 Z gd P bs p A n c B mm d m us w) : CJ w0 bo be SL C1 C2 Z gd P bs p A n c B mm d (upd m 9 true) (upd us 9 (.int .i64 P.1)) w := by
  exact ⟨h.fr, h.v0, h.v1, h.rd, h.v2, h.v3, h.v4, h.v5, h.v6, h.o6, h.v7, h.v8, fun _ => rfl, h.r10, h.r11, h.f11, h.q7, h.q8, h.q10, h.q11, h.lo, h.le⟩
theorem CJ.s10 (h : CJ w0 bo be SL C1 C2 Z gd P bs p A n c B mm d m us w) (h6 : m 6 = true) (hne : bo ≠ be) : CJ w0 bo be SL C1 C2 Z gd P bs p A n c B mm d (upd m 10 true) (upd us 10 undef) (w.setRow bo (segV P.2.1 A n c B mm d)) := by
  have s1 := h.fr.size
  have s2 := h.lo
  have s3 := h.le
  have hs : ∀ k, k ≠ bo → (w.setRow bo (segV P.2.1 A n c B mm d)).heap[k]? = w.heap[k]? := fun k hk => setRow_other _ _ _ _ hk
  refine ⟨⟨h.fr.os, h.fr.tape, h.fr.output, by simpa using h.fr.size, fun k hk hn => (hs k (fun e => hn (.inl e))).trans (h.fr.block k hk hn)⟩, h.v0, h.v1, fun _ e => (by rw [show (upd m 10 true) 6 = m 6 from rfl, h6] at e; cases e), h.v2, h.v3, h.v4, h.v5, h.v6, fun a => ⟨(h.o6 a).1, (h.o6 a).2.1, OwnP.keep (ps := P.2.1.op.sk) (h.o6 a).2.2.1 (fun k g1 g2 => hs k (by omega)), (h.o6 a).2.2.2.keep (fun k g1 g2 => hs k (by omega))⟩, h.v7, h.v8, h.v9, setRow_heap _ _ _ _ _ _ h.r10, ?_, ?_, h.q7, h.q8, fun _ => h6, h.q11, h.lo, h.le⟩
  · rw [World.cell?_of_block (w := w) (hs be (fun e => hne e.symm))]; exact h.r11
  · rw [World.frozen?_of_block (w := w) (hs be (fun e => hne e.symm))]; exact h.f11
theorem CJ.s11 (h : CJ w0 bo be SL C1 C2 Z gd P bs p A n c B mm d m us w) (h6 : m 6 = true) (hne : bo ≠ be) : CJ w0 bo be SL C1 C2 Z gd P bs p A n c B mm d (upd m 11 true) (upd us 11 undef) (w.setCell ⟨be, 0, none⟩ (.int .i64 P.1)) := by
  have s1 := h.fr.size
  have s2 := h.lo
  have s3 := h.le
  have hs : ∀ k, k ≠ be → (w.setCell ⟨be, 0, none⟩ (.int .i64 P.1)).heap[k]? = w.heap[k]? := fun k hk => Below.heap_setCell _ _ _ _ hk
  have c0 := h.r11
  have f0 := h.f11
  refine ⟨⟨h.fr.os, h.fr.tape, h.fr.output, by simpa [World.setCell] using h.fr.size, fun k hk hn => (hs k (fun e => hn (.inr e))).trans (h.fr.block k hk hn)⟩, h.v0, h.v1, fun _ e => (by rw [show (upd m 11 true) 6 = m 6 from rfl, h6] at e; cases e), h.v2, h.v3, h.v4, h.v5, h.v6, fun a => ⟨(h.o6 a).1, (h.o6 a).2.1, OwnP.keep (ps := P.2.1.op.sk) (h.o6 a).2.2.1 (fun k g1 g2 => hs k (by omega)), (h.o6 a).2.2.2.keep (fun k g1 g2 => hs k (by omega))⟩, h.v7, h.v8, h.v9, (hs bo hne).trans h.r10, ?_, ?_, h.q7, h.q8, h.q10, fun _ => h6, h.lo, h.le⟩
  · show (w.setCell ⟨be, 0, none⟩ (.int .i64 P.1)).cell? ⟨be, 0, none⟩ = some (.int .i64 P.1)
    go_simp
  · go_simp
end
theorem ent_clo (cap : Array Value) (w : World) : (callFunc 42 cap).run Tryd.prog w = .ok (.enter 42 cap) w := by go_simp
/-- what the closure leaves -/
def CloQ (w : World) (bo be : Nat) (P : Int × Sg × List Int) (w' : World) : Prop :=
  ∃ A n c B mm d, w'.heap[bo]? = some (.cells (segV P.2.1 A n c B mm d) 34 (0, 0)) ∧ w'.cell? ⟨be, 0, none⟩ = some (.int .i64 (if P.1 = 4 then 0 else P.1)) ∧ P.2.1.op.sk.length = n ∧ OwnP w' w.heap.size (.slice A n c) P.2.1.op.sk ∧ Own .u8 5 w' w.heap.size (.slice B mm d) P.2.2 ∧ (P.1 = 4 → w'.heap[bo]? = some (.cells (segV zSg none 0 0 none 0 0) 34 (0, 0)))
def cjT : List (Option Nat) := [none, none, none, none, none, some 7, some 0, some 1, some 2, some 3, some 4, some 5, some 6, some 8, some 9]
set_option maxRecDepth 100000 in
set_option maxHeartbeats 4000000 in
theorem clo_any (bb g1 g2 bo be b0 : Nat) (A0 : Option Addr) (n0 c0 : Nat) (bs : List Int) (C1 C2 : Array Value) (s1 s2 : Bool) (b1 b2 : List Int) (w : World) (h1 : chkC.AddrC C1 s1 b1) (h2 : chkC.AddrC C2 s2 b2) (hk : Kd w) (hkb : 0 < b0)
    (hN : Nums .u8 w b0 A0 n0 bs) (hn : n0 ≤ 9000) (hy : ∀ x ∈ bs, Byte x) (hb0 : b0 ≤ bo ∧ b0 ≤ be) (hbb : w.cell? ⟨bb, 0, none⟩ = some (.slice A0 n0 c0)) (hr1 : w.heap[g1]? = some (.cells C1 24 (0, 0))) (hr2 : w.heap[g2]? = some (.cells C2 24 (0, 0)))
    (hbo : w.heap[bo]? = some (.cells (segV zSg none 0 0 none 0 0) 34 (0, 0))) (hbe : w.cell? ⟨be, 0, none⟩ = some (.int .i64 0)) (hfe : w.frozen? ⟨be, 0, none⟩ = false) (hne : bo ≠ be) (n1 : bb ≠ bo ∧ bb ≠ be) (n2 : g1 ≠ bo ∧ g1 ≠ be) (n3 : g2 ≠ bo ∧ g2 ≠ be) (P : Int × Sg × List Int) (hP : P = sgP (goodG s1 s2 b1 b2 bs) bs) :
    Calls Tryd.prog 42 #[.pointer (some ⟨bb, 0, none⟩), .pointer (some ⟨g1, 0, none⟩), .pointer (some ⟨g2, 0, none⟩), .pointer (some ⟨bo, 0, none⟩), .pointer (some ⟨be, 0, none⟩)] w fun e w' => e = (if P.1 = 4 then stopped else .returned (.tuple #[])) ∧ Fr (fun k => k = bo ∨ k = be) w w' ∧ CloQ w bo be P w' := by
  have lbb : bb < w.heap.size := World.block_lt_of_cell? _ _ hbb
  have lbe : be < w.heap.size := World.block_lt_of_cell? _ _ hbe
  have l1 := opC.lt_of_row hr1
  have l2 := opC.lt_of_row hr2
  have lbo := opC.lt_of_row hbo
  have hl := hN.len
  have NM := Lib.hid (fun (w' : World) (F : Fr (fun k => k = bo ∨ k = be) w w') => (show Nums .u8 w' w'.heap.size A0 n0 bs from (hN.keep (w' := w') (fun q hq => World.cell?_of_block (w := w) (F.block q.block (by omega) (by omega)))).more (by have := F.size; omega)))
  have HC := Lib.hid (fun (w' : World) (F : Fr (fun k => k = bo ∨ k = be) w w') => (show w'.cell? ⟨bb, 0, none⟩ = some (.slice A0 n0 c0) from (World.cell?_of_block (w := w) (F.block bb lbb (by omega))).trans hbb))
  have HR1 := Lib.hid (fun (w' : World) (F : Fr (fun k => k = bo ∨ k = be) w w') => (show w'.heap[g1]? = some (.cells C1 24 (0, 0)) from (F.block g1 l1 (by omega)).trans hr1))
  have HR2 := Lib.hid (fun (w' : World) (F : Fr (fun k => k = bo ∨ k = be) w w') => (show w'.heap[g2]? = some (.cells C2 24 (0, 0)) from (F.block g2 l2 (by omega)).trans hr2))
  have IC1 := Lib.hid (show (Tryd.prog.info? 24).map (·.size) = some C1.size by rw [h1.size]; exact addr_info)
  have IC2 := Lib.hid (show (Tryd.prog.info? 24).map (·.size) = some C2.size by rw [h2.size]; exact addr_info)
  have RR := Lib.hid (fun (w' : World) (F : Fr (fun k => k = bo ∨ k = be) w w') => octC.read_any A0 n0 c0 bs w' (NM.out w' F) (by omega))
  have GG := Lib.hid (fun (w' : World) (F : Fr (fun k => k = bo ∨ k = be) w w') => good_any A0 n0 c0 bs w' h1 h2 (NM.out w' F) hn hy)
  obtain ⟨gd, hgd⟩ : ∃ gd, gd = goodG s1 s2 b1 b2 bs := ⟨_, rfl⟩
  rw [← hgd] at GG hP
  have REA := Lib.hid (fun (w' : World) (p : Nat) (F : Fr (fun k => k = bo ∨ k = be) w w') (hp : w.heap.size ≤ p) (R : Rd w' p bs) => (show Calls Tryd.prog 43 #[.pointer (some ⟨p, 0, none⟩), .bool gd] w' (RdRes w' p P) by
    rw [hP]
    refine read_any p p bs gd w' (rdD_of R) (fun w2 F2 => Kd.stay hk hkb (Nat.le_trans F.size F2.size) fun k hkb0 => ?_) (by omega) hy
    rw [F2.block k (by have := F.size; omega) (by show ¬ k = p; omega), F.block k (by omega) (by omega)]))
  unfold RdRes at REA
  have PM : P.2.1.op.mac.length = 12 := by rw [hP]; exact sgP_mac gd hy
  have UPP := Lib.hid (fun A n c B m d => (segC PM A n c B m d).info)
  have OPP := Lib.hid (fun A n c B m d => seg_one P.2.1 A n c B m d)
  have SPP := Lib.hid (fun A n c B m d => seg_size (s := zSg) (s' := P.2.1) opC.zOpt_ok.lm PM none A 0 0 n c none B 0 0 m d)
  have h4z : P.1 = 4 → P.2 = (zSg, []) := fun h => by rw [hP] at h ⊢; exact sgP_four _ _ h
  have HST := Lib.hid (fun (w' : World) (h4 : P.1 = 4) (F : Fr (fun k => k = bo ∨ k = be) w w') (hr : w'.heap[bo]? = some (.cells (segV zSg none 0 0 none 0 0) 34 (0, 0))) (hc : w'.cell? ⟨be, 0, none⟩ = some (.int .i64 0)) => (show stopped = (if P.1 = 4 then stopped else .returned (.tuple #[])) ∧ Fr (fun k => k = bo ∨ k = be) w w' ∧ CloQ w bo be P w' from
    ⟨by rw [if_pos h4], F, none, 0, 0, none, 0, 0, by rw [h4z h4]; exact hr, by rw [if_pos h4]; exact hc, by rw [h4z h4]; rfl, by rw [h4z h4]; exact OwnP.nil _ _, by rw [h4z h4]; exact Own.nil _ _, fun _ => hr⟩))
  have HJ0 := Lib.hid (show CJ w bo be (.slice A0 n0 c0) C1 C2 (segV zSg none 0 0 none 0 0) gd P bs 0 none 0 0 none 0 0 (fun _ => false) (fun _ => undef) w.drew from
    ⟨(Fr.below (S := fun k => k = bo ∨ k = be) (Below.refl w.heap.size w).drew), fun h => (by cases h), fun h => (by cases h), fun h => (by cases h), fun h => (by cases h), fun h => (by cases h), fun h => (by cases h), fun h => (by cases h), fun h => (by cases h), fun h => (by cases h), fun h => (by cases h), fun h => (by cases h), fun h => (by cases h), hbo, hbe, hfe, fun h => (by cases h), fun h => (by cases h), fun h => (by cases h), fun h => (by cases h), lbo, lbe⟩)
  have NE := Lib.hid hne
  obtain ⟨EX, hEX⟩ : ∃ E, E = (if P.1 = 4 then stopped else .returned (.tuple #[])) := ⟨_, rfl⟩
  rw [← hEX] at HST ⊢
  have HEX := Lib.hid hEX
  clear hEX
  generalize segV zSg none 0 0 none 0 0 = Z at *
  clear hP hgd NM PM h4z hN hy hn hl hk hkb hb0 hbb hr1 hr2 hbo hbe hfe hne n1 n2 n3 lbb lbe l1 l2 lbo h1 h2
  go_enter Tryd.func42, Tryd.ntmps42
  refine with_act fun a0 ha0 => ?_
  have hl : cjT.length = a0.tmps.size := by rw [ha0]; rfl
  have k0 : a0.tmps[0]?.getD undef = .pointer (some ⟨bb, 0, none⟩) := by rw [ha0]; rfl
  have k1 : a0.tmps[1]?.getD undef = .pointer (some ⟨g1, 0, none⟩) := by rw [ha0]; rfl
  have k2 : a0.tmps[2]?.getD undef = .pointer (some ⟨g2, 0, none⟩) := by rw [ha0]; rfl
  have k3 : a0.tmps[3]?.getD undef = .pointer (some ⟨bo, 0, none⟩) := by rw [ha0]; rfl
  have k4 : a0.tmps[4]?.getD undef = .pointer (some ⟨be, 0, none⟩) := by rw [ha0]; rfl
  refine wp_region_J (by kernel_rfl) cjT (by kernel_rfl) (by kernel_rfl) hl (fun _ => undef) (by rw [ha0]; rfl) (fun m us w' => ∃ p A n c B mm d, CJ w bo be (.slice A0 n0 c0) C1 C2 Z gd P bs p A n c B mm d m us w') ⟨0, none, 0, 0, none, 0, 0, HJ0.out⟩ ⟨?_, ?_, ?_, ?_, ?_, ?_, ?_, ?_, ?_, ?_, ?_, ?_, trivial⟩ ?_
  · refine stepJ [] (by kernel_rfl) rfl fun m us w' hJ hmi hd => ?_
    obtain ⟨p, A, n, c, B, mm, d, hJ⟩ := hJ
    have o0 := (frame_old2 (us := us) (a := a0) (show (cjT[0]?).join = none from rfl)).trans k0
    have hc := HC.out w' hJ.fr
    generalize frame cjT a0 us = fr at *
    exact val_J (v := .slice A0 n0 c0) (w' := w') (by go_simp) ⟨p, A, n, c, B, mm, d, hJ.s0⟩
  · refine stepJ [0] (by kernel_rfl) rfl fun m us w' hJ hmi hd => ?_
    obtain ⟨p, A, n, c, B, mm, d, hJ⟩ := hJ
    have v0 := (frame_at2 (us := us) hl (show (cjT[6]?).join = some 0 from rfl)).trans (hJ.v0 (hd 0 (by simp)))
    generalize frame cjT a0 us = fr at *
    refine call_J (f := 44) (args := #[.slice A0 n0 c0]) (by go_simp) ((RR.out w' hJ.fr).mono ?_)
    rintro e w'' ⟨q, rfl, hq, R, Bw⟩
    exact ⟨_, rfl, q, A, n, c, B, mm, d, (hJ.ext Bw).s1 (Nat.le_trans hJ.fr.size hq) R⟩
  · refine stepJ [] (by kernel_rfl) rfl fun m us w' hJ hmi hd => ?_
    obtain ⟨p, A, n, c, B, mm, d, hJ⟩ := hJ
    have o1 := (frame_old2 (us := us) (a := a0) (show (cjT[1]?).join = none from rfl)).trans k1
    have hr := HR1.out w' hJ.fr
    generalize frame cjT a0 us = fr at *
    exact load_J 24 1 rfl g1 o1 _ _ (0, 0) _ hr Tryd.underlying24 rfl IC1.out ⟨p, A, n, c, B, mm, d, hJ.s2⟩
  · refine stepJ [] (by kernel_rfl) rfl fun m us w' hJ hmi hd => ?_
    obtain ⟨p, A, n, c, B, mm, d, hJ⟩ := hJ
    have o2 := (frame_old2 (us := us) (a := a0) (show (cjT[2]?).join = none from rfl)).trans k2
    have hr := HR2.out w' hJ.fr
    generalize frame cjT a0 us = fr at *
    exact load_J 24 2 rfl g2 o2 _ _ (0, 0) _ hr Tryd.underlying24 rfl IC2.out ⟨p, A, n, c, B, mm, d, hJ.s3⟩
  · refine stepJ [] (by kernel_rfl) rfl fun m us w' hJ hmi hd => ?_
    obtain ⟨p, A, n, c, B, mm, d, hJ⟩ := hJ
    have o0 := (frame_old2 (us := us) (a := a0) (show (cjT[0]?).join = none from rfl)).trans k0
    have hc := HC.out w' hJ.fr
    generalize frame cjT a0 us = fr at *
    exact val_J (v := .slice A0 n0 c0) (w' := w') (by go_simp) ⟨p, A, n, c, B, mm, d, hJ.s4⟩
  · refine stepJ [2, 3, 4] (by kernel_rfl) rfl fun m us w' hJ hmi hd => ?_
    obtain ⟨p, A, n, c, B, mm, d, hJ⟩ := hJ
    have v2 := (frame_at2 (us := us) hl (show (cjT[8]?).join = some 2 from rfl)).trans (hJ.v2 (hd 2 (by simp)))
    have v3 := (frame_at2 (us := us) hl (show (cjT[9]?).join = some 3 from rfl)).trans (hJ.v3 (hd 3 (by simp)))
    have v4 := (frame_at2 (us := us) hl (show (cjT[10]?).join = some 4 from rfl)).trans (hJ.v4 (hd 4 (by simp)))
    generalize frame cjT a0 us = fr at *
    refine call_J (f := 45) (args := #[.agg C1, .agg C2, .int .u8 6, .slice A0 n0 c0]) (by go_simp) ((GG.out w' hJ.fr).mono ?_)
    rintro e w'' ⟨rfl, Bw⟩
    exact ⟨_, rfl, p, A, n, c, B, mm, d, (hJ.ext Bw).s5⟩
  · refine stepJ [1, 5] (by kernel_rfl) rfl fun m us w' hJ hmi hd => ?_
    obtain ⟨p, A, n, c, B, mm, d, hJ⟩ := hJ
    have v1 := (frame_at2 (us := us) hl (show (cjT[7]?).join = some 1 from rfl)).trans ((hJ.v1 (hd 1 (by simp))).1)
    have v5 := (frame_at2 (us := us) hl (show (cjT[11]?).join = some 5 from rfl)).trans (hJ.v5 (hd 5 (by simp)))
    have hp := (hJ.v1 (hd 1 (by simp))).2
    have hr := hJ.rd (hd 1 (by simp)) hmi
    have n10 : m 10 = false := by cases hh : m 10 with
      | false => rfl
      | true => rw [hJ.q10 hh] at hmi; cases hmi
    have n11 : m 11 = false := by cases hh : m 11 with
      | false => rfl
      | true => rw [hJ.q11 hh] at hmi; cases hmi
    have e10 := hJ.r10
    have e11 := hJ.r11
    rw [n10] at e10
    rw [n11] at e11
    have RD := REA.out w' p hJ.fr hp hr
    have hdf : (frame cjT a0 us).defers = [] := by rw [ha0]; rfl
    generalize frame cjT a0 us = fr at *
    refine free_call2 (f := 43) (args := #[.pointer (some ⟨p, 0, none⟩), .bool gd]) (by go_simp) (RD.mono ?_)
    rintro e w'' (⟨h4, rfl, F⟩ | ⟨h4, A', n', c', B', m', d', rfl, hl', hP', hO', F⟩)
    · refine .inr ⟨_, rfl, ?_⟩
      refine ⟨hdf, ?_⟩
      refine HST.out w'' h4 (fr_less hJ.fr F (fun k hk e => by have e2 : k = p := e; omega)) ?_ ?_
      · rw [F.block bo (by have := hJ.fr.size; have := hJ.lo; omega) (by show ¬ bo = p; have := hJ.lo; omega)]; exact e10
      · rw [World.cell?_of_block (w := w') (F.block be (by have := hJ.fr.size; have := hJ.le; omega) (by show ¬ be = p; have := hJ.le; omega))]; exact e11
    · exact .inl ⟨_, rfl, _, rfl, p, A', n', c', B', m', d', hJ.s6 hmi (hd 1 (by simp)) h4 hl' hP' hO' F⟩
  · refine stepJ [6] (by kernel_rfl) rfl fun m us w' hJ hmi hd => ?_
    obtain ⟨p, A, n, c, B, mm, d, hJ⟩ := hJ
    have v6 := (frame_at2 (us := us) hl (show (cjT[12]?).join = some 6 from rfl)).trans (hJ.v6 (hd 6 (by simp)))
    generalize frame cjT a0 us = fr at *
    exact val_J (v := .tuple #[.agg (segV P.2.1 A n c B mm d), .int .i64 P.1]) (w' := w') (by go_simp) ⟨p, A, n, c, B, mm, d, hJ.s7 (hd 6 (by simp))⟩
  · refine stepJ [7] (by kernel_rfl) rfl fun m us w' hJ hmi hd => ?_
    obtain ⟨p, A, n, c, B, mm, d, hJ⟩ := hJ
    have v7 := (frame_at2 (us := us) hl (show (cjT[5]?).join = some 7 from rfl)).trans (hJ.v7 (hd 7 (by simp)))
    have h6 := hJ.q7 (hd 7 (by simp))
    generalize frame cjT a0 us = fr at *
    exact val_J (v := .agg (segV P.2.1 A n c B mm d)) (w' := w') (by go_simp) ⟨p, A, n, c, B, mm, d, hJ.s8 h6⟩
  · refine stepJ [7] (by kernel_rfl) rfl fun m us w' hJ hmi hd => ?_
    obtain ⟨p, A, n, c, B, mm, d, hJ⟩ := hJ
    have v7 := (frame_at2 (us := us) hl (show (cjT[5]?).join = some 7 from rfl)).trans (hJ.v7 (hd 7 (by simp)))
    generalize frame cjT a0 us = fr at *
    exact val_J (v := .int .i64 P.1) (w' := w') (by go_simp) ⟨p, A, n, c, B, mm, d, hJ.s9⟩
  · refine stepJ [8] (by kernel_rfl) rfl fun m us w' hJ hmi hd => ?_
    obtain ⟨p, A, n, c, B, mm, d, hJ⟩ := hJ
    have v8 := (frame_at2 (us := us) hl (show (cjT[13]?).join = some 8 from rfl)).trans (hJ.v8 (hd 8 (by simp)))
    have o3 := (frame_old2 (us := us) (a := a0) (show (cjT[3]?).join = none from rfl)).trans k3
    have h6 := hJ.q8 (hd 8 (by simp))
    have hrow := hJ.r10
    rw [hmi] at hrow
    generalize frame cjT a0 us = fr at *
    exact store_J 34 3 13 rfl bo _ o3 v8 _ _ hrow (UPP.out A n c B mm d) (SPP.out A n c B mm d) (OPP.out A n c B mm d) ⟨p, A, n, c, B, mm, d, hJ.s10 h6 NE.out⟩
  · refine stepJ [9, 10] (by kernel_rfl) rfl fun m us w' hJ hmi hd => ?_
    obtain ⟨p, A, n, c, B, mm, d, hJ⟩ := hJ
    have v9 := (frame_at2 (us := us) hl (show (cjT[14]?).join = some 9 from rfl)).trans (hJ.v9 (hd 9 (by simp)))
    have o4 := (frame_old2 (us := us) (a := a0) (show (cjT[4]?).join = none from rfl)).trans k4
    have h6 := hJ.q10 (hd 10 (by simp))
    have hc11 := hJ.r11
    have hf11 := hJ.f11
    rw [hmi, if_neg (by decide)] at hc11
    generalize frame cjT a0 us = fr at *
    exact free_skip (w' := w'.setCell ⟨be, 0, none⟩ (.int .i64 P.1)) (by go_simp) ⟨undef, rfl, p, A, n, c, B, mm, d, hJ.s11 h6 NE.out⟩
  · intro m us w2 hm hJ
    obtain ⟨p, A, n, c, B, mm, d, hJ⟩ := hJ
    have HJ := Lib.hid hJ
    have M10 := Lib.hid (hm 10 (by decide))
    have M11 := Lib.hid (hm 11 (by decide))
    have M6 := Lib.hid (hm 6 (by decide))
    clear hJ hm hl k0 k1 k2 k3 k4 HJ0 REA RR GG
    subst ha0
    simp only [frame, cjT, fill]
    go_wp2_with fail
    go_end0
    have h4 := (HJ.out.o6 M6.out).1
    have hr := HJ.out.r10
    have hc := HJ.out.r11
    rw [M10.out] at hr
    rw [M11.out] at hc
    exact ⟨by rw [HEX.out, if_neg h4], HJ.out.fr, A, n, c, B, mm, d, hr, by rw [if_neg h4]; exact hc, (HJ.out.o6 M6.out).2.1, (HJ.out.o6 M6.out).2.2.1, (HJ.out.o6 M6.out).2.2.2, fun h => absurd h h4⟩
end Go.Proofs.YtniimgbljhmcoaaDoor.sgC

/-
  Packets of IPv4, read and turned: plain mathematics over their bytes.
-/
namespace Go.Proofs.YtniimgbljhmcoaaDoor.pkC
open Go.ChangeShapes Go.WideShapes Go.ChangeAt Go.RowKit
open Go.Proofs.YtniimgbljhmcoaaDoor.memC Go.Proofs.YtniimgbljhmcoaaDoor.genC Go.Proofs.YtniimgbljhmcoaaDoor.adC
set_option linter.unusedVariables false
/-- two bytes as a number -/
def w2 (bs : List Int) (i : Nat) : Int := bs.getD i 0 * 256 + bs.getD (i + 1) 0
end Go.Proofs.YtniimgbljhmcoaaDoor.pkC

/-
  Numbers and addresses at places of some bytes: the program's.
-/
namespace Go.Proofs.YtniimgbljhmcoaaDoor.pkC
open Go.ChangeShapes Go.WideShapes Go.ChangeAt Go.RowKit
open Go.Proofs.YtniimgbljhmcoaaDoor.memC Go.Proofs.YtniimgbljhmcoaaDoor.genC Go.Proofs.YtniimgbljhmcoaaDoor.butC Go.Proofs.YtniimgbljhmcoaaDoor.freeC Go.Proofs.YtniimgbljhmcoaaDoor.adC
set_option linter.unusedVariables false
/-- b[f:e] -/
theorem cut_two (A : Option Addr) (n c f e : Nat) (h1 : f ≤ e) (h2 : e ≤ c) (w : World) :
    (Instr.slice 32 (.slice A n c) (some (.int .i64 (f : Int))) (some (.int .i64 (e : Int))) none).run Tryd.prog w = .ok (.slice (if c = f then A else A.map (·.add f)) (e - f) (c - f)) w := by
  have k1 : (f : Int) ≤ (e : Int) := by omega
  have k2 : (e : Int) ≤ (c : Int) := by omega
  by_cases h : c = f
  · subst h
    rw [if_pos rfl]
    go_simp
  · rw [if_neg h]
    go_simp
end Go.Proofs.YtniimgbljhmcoaaDoor.pkC

/-
  The first of two errors that is one.
-/
namespace Go.Proofs.YtniimgbljhmcoaaDoor.pkC
open Go.ChangeShapes Go.WideShapes Go.ChangeAt Go.RowKit
open Go.Proofs.YtniimgbljhmcoaaDoor.memC Go.Proofs.YtniimgbljhmcoaaDoor.genC Go.Proofs.YtniimgbljhmcoaaDoor.adC
set_option linter.unusedVariables false
set_option maxRecDepth 100000 in
theorem cor_any (a b : Int) (g : Nat) (w : World) (h : w.heap[g]? = some (.cells #[.int .i64 a, .int .i64 b] 37 (0, 0))) :
    Calls Tryd.prog 46 #[.slice (some ⟨g, 0, none⟩) 2 2] w fun e w' => e = .returned (.int .i64 (if a = 0 then b else a)) ∧ w = w' := by
  have c0 : w.cell? ⟨g, 0, none⟩ = some (.int .i64 a) := by rw [cell_of_row w g 0 _ _ (0, 0) h]; rfl
  have c1 : w.cell? ⟨g, 1, none⟩ = some (.int .i64 b) := by rw [cell_of_row w g 1 _ _ (0, 0) h]; rfl
  clear h
  go_enter Tryd.func46, Tryd.ntmps46
  go_wp2_with fail
  go_loop [8] (fun i => ∃ k : Nat, k ≤ 2 ∧ i = .int .i64 k ∧ (1 ≤ k → a = 0) ∧ (2 ≤ k → b = 0)) (fun i => 2 - (intOf i).toNat)
  case atStart => exact ⟨0, by omega, rfl, by omega, by omega⟩
  case round =>
    obtain ⟨k, hk, rfl, h1, h2⟩ := hrel
    match k, hk with
    | 0, _ =>
      by_cases ha : a = 0
      · subst ha
        clear h1 h2
        go_wp2_with fail
        go_round
        case rel => exact ⟨1, by omega, rfl, by simp, by omega⟩
        case measure => simp [intOf]
      · have q : (a == 0) = false := beq_eq_false_iff_ne.2 ha
        clear h1 h2
        go_wp2_with fail
        go_ret
        exact ⟨by first | rfl | rw [if_neg ha], rfl⟩
    | 1, _ =>
      obtain rfl := h1 (by omega)
      by_cases hb : b = 0
      · subst hb
        clear h1 h2
        go_wp2_with fail
        go_round
        case rel => exact ⟨2, by omega, rfl, by simp, by simp⟩
        case measure => simp [intOf]
      · have q : (b == 0) = false := beq_eq_false_iff_ne.2 hb
        clear h1 h2
        go_wp2_with fail
        go_ret
        exact ⟨rfl, rfl⟩
    | 2, _ =>
      obtain rfl := h1 (by omega)
      obtain rfl := h2 (by omega)
      clear h1 h2
      go_wp2_with fail
      go_ret
      exact ⟨rfl, rfl⟩
end Go.Proofs.YtniimgbljhmcoaaDoor.pkC
