/-
  Tables: Steps, by contract. (Written by tools/gen_tabs.py.)
-/
import Derived.Test.YtbcfndhnopmbbaaTabR1
namespace Go.Proofs.Ytbcfndhnopmbbaa
open Go.RowKit
set_option linter.unusedVariables false
set_option linter.unusedSimpArgs false
/-- steps as a value -/
def StepsAt (w : World) (v : Value) (xs : List Stp) : Prop :=
  ∃ A c, v = .slice A xs.length c ∧ xs.length ≤ c ∧ xs.length ≤ 96 ∧ Reads w w.heap.size 6 A xs.length (STC xs) ∧ ∀ x ∈ xs, BsAt w w.heap.size (bsOf x)
theorem StepsAt.same {w w' : World} {v : Value} {xs : List Stp} (h : StepsAt w v xs) (hb : Below w.heap.size w w') : StepsAt w' v xs := by
  obtain ⟨A, c, h1, h2, h3, h4, h5⟩ := h
  exact ⟨A, c, h1, h2, h3, (h4.below hb).more hb.size, fun x hx => (h5 x hx).same hb⟩
theorem StepsAt.nil (w : World) : StepsAt w (.slice none 0 0) [] := ⟨none, 0, rfl, Nat.le_refl _, by simp, ⟨rfl, fun h => absurd h (by simp)⟩, fun x hx => by cases hx⟩
theorem own_form6 {w : World} {b n : Nat} {v : Value} {xs : List Stp} (h : w.ownsRow b 69 6 v n (STC xs)) (hn : n = xs.length) (hx : ∀ x ∈ xs, BsAt w w.heap.size (bsOf x)) (h96 : xs.length ≤ 96) : StepsAt w v xs := by
  subst hn
  rcases h.2 with ⟨rfl, h0⟩ | ⟨g, cap, cur, rfl, _, _, hc, _⟩
  · have : xs = [] := List.eq_nil_of_length_eq_zero h0
    subst this
    exact StepsAt.nil w
  · exact ⟨_, cap, rfl, hc, h96, Reads.of_own h, hx⟩
theorem filterMap_len {α β : Type} (f : α → Option β) (l : List α) : (l.filterMap f).length ≤ l.length := List.length_filterMap_le f l
theorem pieces_any (v : Value) (t : Tb.Tab) (s : Tb.St) (A : Option Addr) (c : Nat) (l : Tb.Text) (p : Nat) (w : World) (h : TabAt w w.heap.size v t) (hr : TextAt w w.heap.size A l) (hp : p < l.length) (hc : l.length ≤ c)
    (hlang : Tb.langOk s.lang = true) (hval : Tb.valid t = 0) :
    Calls Try.prog 56 #[v, stV s, .slice A l.length c, .int .i64 (p : Int)] w fun e w' => ∃ v' xs, e = .returned v' ∧ StepsAt w' v' xs ∧ xs.map (·.sp) = Tb.pieces (Tb.rulesOf t s.lang) t s l p ∧ Below w.heap.size w w' := by
  obtain ⟨h0, h1, hpr, _⟩ := Tb.valid_zero hval
  obtain ⟨hr0, hr1, _, _, hcap, _, hfin, _⟩ := Tb.proper_parts hpr
  have hl : 0 ≤ s.lang ∧ s.lang < 2 := of_decide_eq_true hlang
  have fin : ∀ (rs : List Tb.Rl) (hl : rs.length ≤ 96) (e : Ending) (w' : World), (∃ v' xs, e = .returned v' ∧ w'.ownsRow w.heap.size 69 6 v' xs.length (STC xs) ∧ xs.map (·.sp) = Tb.pieces rs t s l p ∧ StepsF w' v' xs ∧ Below w.heap.size w w') →
      ∃ v' xs, e = .returned v' ∧ StepsAt w' v' xs ∧ xs.map (·.sp) = Tb.pieces rs t s l p ∧ Below w.heap.size w w' := by
    rintro rs hl e w' ⟨v', xs, he, ho, hm, hf, hb⟩
    refine ⟨v', xs, he, own_form6 ho rfl (fun x hx => (hf x hx).1) ?_, hm, hb⟩
    have h1 : xs.length = (Tb.pieces rs t s l p).length := by rw [← hm, List.length_map]
    have h2 : (Tb.pieces rs t s l p).length ≤ rs.length := by unfold Tb.pieces; have := filterMap_len (Tb.pieceAt rs t s l p) (List.range rs.length); simpa using this
    omega
  by_cases hz : s.lang = 0
  · have e : Tb.rulesOf t s.lang = t.r0 := by unfold Tb.rulesOf; rw [if_pos hz]
    rw [e]
    exact (pieces_0 v t s A c l p w h hr hp hc hz h0 hr0 (Tb.writable_len hfin).2 (Tb.writable_len hcap).2).mono (fin t.r0 h0)
  · have e : Tb.rulesOf t s.lang = t.r1 := by unfold Tb.rulesOf; rw [if_neg hz]
    rw [e]
    exact (pieces_1 v t s A c l p w h hr hp hc (by omega) h1 hr1 (Tb.writable_len hfin).2 (Tb.writable_len hcap).2).mono (fin t.r1 h1)
theorem SC1_reads (x : Stp) (w : World) : Reads (w.alloc (.cells (spC x).toArray 69)) (w.alloc (.cells (spC x).toArray 69)).heap.size 6 (some ⟨w.heap.size, 0, none⟩) 1 (STC [x]) := by
  have e : STC [x] = spC x := by unfold STC; simp
  rw [e]
  refine ⟨rfl, fun _ => ⟨_, rfl, by simp, fun j u hu => ?_⟩⟩
  have h2 := Blk.cell (Blk.new w 69 (spC x).toArray) j
  rw [show ((⟨w.heap.size, 0, none⟩ : Addr).add j) = ⟨w.heap.size, j, none⟩ by unfold Addr.add; split <;> simp_all, h2, ← hu]
  rw [List.getElem?_toArray]
theorem steps_one (x : Stp) (w : World) (hx : BsAt w w.heap.size (bsOf x)) : StepsAt (w.alloc (.cells (spC x).toArray 69)) (.slice (some ⟨w.heap.size, 0, none⟩) 1 1) [x] :=
  ⟨_, 1, rfl, Nat.le_refl _, by simp, SC1_reads x w, fun y hy => by
    rw [List.mem_singleton] at hy
    subst hy
    exact hx.same (below_alloc w _)⟩
set_option maxHeartbeats 8000000 in
set_option maxRecDepth 100000 in
theorem steps_any (v : Value) (t : Tb.Tab) (s : Tb.St) (A : Option Addr) (c : Nat) (l : Tb.Text) (p : Int) (w : World) (h : TabAt w w.heap.size v t) (hr : TextAt w w.heap.size A l) (hc : l.length ≤ c) :
    Calls Try.prog 27 #[v, stV s, .slice A l.length c, .int .i64 p] w fun e w' => ∃ v' xs, e = .returned v' ∧ StepsAt w' v' xs ∧ xs.map (·.sp) = Tb.steps t s l p ∧ Below w.heap.size w w' := by
  have HS := hide (show Tb.steps t s l p = if 0 ≤ p ∧ p < l.length ∧ Tb.langOk s.lang = true ∧ l.all Tb.symOk = true ∧ Tb.valid t = 0 then Tb.next t s l p.toNat else [] from rfl)
  have CLG := hide (fun W => language_any W s.lang)
  have CEV0 := hide (fun (W : World) (hb : Below w.heap.size w W) => every_valid A c l W (hr.same hb))
  have CVA0 := hide (fun (W : World) (hb : Below w.heap.size w W) => valid_any v t W ((h.below hb).more hb.size))
  have CNU0 := hide (fun (ch : UInt8) (hch : Tb.digit ch = true) (hv : Tb.valid t = 0) (W : World) (hb : Below w.heap.size w W) => number_any v t s ch W ((h.below hb).more hb.size) (Tb.writable_len (Tb.proper_parts (Tb.valid_zero hv).2.2.1).2.2.2.2.2.1).2 (Tb.proper_parts (Tb.valid_zero hv).2.2.1).2.2.1 hch)
  have CPI0 := hide (fun (q : Nat) (hq : q < l.length) (hlang : Tb.langOk s.lang = true) (hv : Tb.valid t = 0) (W : World) (hb : Below w.heap.size w W) => pieces_any v t s A c l q W ((h.below hb).more hb.size) (hr.same hb) hq hc hlang hv)
  have HR := hide hr
  have HN0 := hide (fun (q : Nat) => (show Tb.next t s l q = if (Tb.at_ l q).1 ≠ s.lang then [⟨⟨(Tb.at_ l q).1, false, false⟩, 0, t.sw.l, -1⟩] else if Tb.digit (Tb.at_ l q).2 then [Tb.number t s (Tb.at_ l q).2] else Tb.pieces (Tb.rulesOf t s.lang) t s l q from rfl))
  have HSW := hide (fun (hv : Tb.valid t = 0) => Tb.writable_len (Tb.proper_parts (Tb.valid_zero hv).2.2.1).2.2.2.2.2.2.2)
  obtain ⟨A0, A1, c0, c1, rfl, h0, h1, _, _, hd, hcap, hnum, hfin, hsw⟩ := h
  have HSWB := hide hsw
  have hbig := hr.2
  clear h0 h1 hd hcap hnum hfin hsw hr
  unfold stV at *
  generalize Tb.steps t s l p = sts at *
  generalize hva : Tb.valid t = va at *
  generalize hall : l.all Tb.symOk = al at *
  generalize hlo : Tb.langOk s.lang = lo at *
  obtain ⟨n, hn⟩ : ∃ n, n = l.length := ⟨_, rfl⟩
  have HNL := hide hn
  rw [← hn] at HS CEV0 CPI0 hc hbig ⊢
  have hni : (n : Int) ≤ 1048576 := by omega
  generalize t.r0.length = n0 at *
  generalize t.r1.length = n1 at *
  generalize t.dig.l.length = n2 at *
  generalize t.cap.l.length = n3 at *
  generalize t.num.l.length = n4 at *
  generalize t.fin.l.length = n5 at *
  obtain ⟨n6, hn6⟩ : ∃ n6, n6 = t.sw.l.length := ⟨_, rfl⟩
  have HN6 := hide hn6
  rw [← hn6] at CVA0 CNU0 CPI0 ⊢
  generalize hsl : s.lang = sl at *
  generalize s.num = sn at *
  generalize s.inn = si at *
  have HSL := hide hsl
  clear hn hn6 hva hall hlo hsl
  go_enter Try.func27, Try.ntmps27
  go_upto_region 1 with fail
  refine name_world fun V hV => ?_
  have V4 := hide (show Blk V w.heap.size 28 #[.slice A0 n0 c0, .slice A1 n1 c1, .slice t.dig.ad n2 t.dig.c, .slice t.cap.ad n3 t.cap.c, .slice t.num.ad n4 t.num.c, .slice t.fin.ad n5 t.fin.c, .slice t.sw.ad n6 t.sw.c] by rw [← hV.out]; exact (Blk.new w _ _).alloc _)
  have V5 := hide (show Blk V (w.heap.size + 1) 60 #[.int .i64 sl, .bool sn, .bool si] by rw [← hV.out]; exact Blk.new2 w _ _ _)
  have HV := hide (show Below w.heap.size w V by rw [← hV.out]; exact ((Below.refl _ _).alloc (Nat.le_refl _) _).alloc (by simp) _)
  have hgV := V5.out.lt
  have CEV := hide (CEV0.out V HV.out)
  have CVA := hide (CVA0.out)
  have k5 : V.cell? ⟨w.heap.size + 1, 0, none⟩ = some (.int .i64 sl) := V5.out.cell 0
  clear hV CEV0 CVA0
  by_cases hp0 : p < 0
  · have HF := hide (show sts = [] by rw [HS.out, if_neg (by omega)])
    clear HS CPI0 CNU0
    go_wp2
    go_ret
    first
      | exact ⟨_, [], rfl, StepsAt.nil _, by rw [HF.out]; rfl, HV.out⟩
      | exact ⟨_, rfl, [], StepsAt.nil _, by rw [HF.out]; rfl, HV.out⟩
  · obtain ⟨q, rfl⟩ : ∃ q : Nat, p = (q : Int) := ⟨p.toNat, by omega⟩
    have hq0 : (0 : Int) ≤ (q : Int) := by omega
    clear hp0
    by_cases hqn : (n : Int) ≤ (q : Int)
    · have HF := hide (show sts = [] by rw [HS.out, if_neg (by omega)])
      clear HS CPI0 CNU0
      go_wp2
      go_ret
      first
        | exact ⟨_, [], rfl, StepsAt.nil _, by rw [HF.out]; rfl, HV.out⟩
        | exact ⟨_, rfl, [], StepsAt.nil _, by rw [HF.out]; rfl, HV.out⟩
    · have hq1 : (q : Int) < (n : Int) := by omega
      cases lo with
      | false =>
        have HF := hide (show sts = [] by rw [HS.out, if_neg (by simp)])
        clear HS CPI0 CNU0
        go_wp2_with (first
      | (go_at_call 45; refine (unhide CLG _).mono ?_; rintro e w1 ⟨rfl, rfl⟩)
      | (go_at_call 49; refine (unhide CEV).mono ?_; rintro e w2 ⟨rfl, hb2⟩; have B2 := hide hb2; have Q4 := V4.out.below hb2 (by omega); have h0 : w2.cell? ⟨w.heap.size, 0, none⟩ = some (.slice A0 n0 c0) := Q4.cell 0; have h1 : w2.cell? ⟨w.heap.size, 1, none⟩ = some (.slice A1 n1 c1) := Q4.cell 1; have h2 : w2.cell? ⟨w.heap.size, 2, none⟩ = some (.slice t.dig.ad n2 t.dig.c) := Q4.cell 2; have h3 : w2.cell? ⟨w.heap.size, 3, none⟩ = some (.slice t.cap.ad n3 t.cap.c) := Q4.cell 3; have h4 : w2.cell? ⟨w.heap.size, 4, none⟩ = some (.slice t.num.ad n4 t.num.c) := Q4.cell 4; have h5 : w2.cell? ⟨w.heap.size, 5, none⟩ = some (.slice t.fin.ad n5 t.fin.c) := Q4.cell 5; have h6 : w2.cell? ⟨w.heap.size, 6, none⟩ = some (.slice t.sw.ad n6 t.sw.c) := Q4.cell 6; clear hb2 Q4)
      | (go_at_call 10; refine (unhide CVA w2 (HV.out.trans (B2.out.mono HV.out.size))).mono ?_; rintro e w3 ⟨rfl, hb3⟩; have B3 := hide hb3; clear hb3))
        go_ret
        first
          | exact ⟨_, [], rfl, StepsAt.nil _, by rw [HF.out]; rfl, HV.out⟩
          | exact ⟨_, rfl, [], StepsAt.nil _, by rw [HF.out]; rfl, HV.out⟩
      | true =>
      cases al with
      | false =>
        have HF := hide (show sts = [] by rw [HS.out, if_neg (by simp)])
        clear HS CPI0 CNU0
        go_wp2_with (first
      | (go_at_call 45; refine (unhide CLG _).mono ?_; rintro e w1 ⟨rfl, rfl⟩)
      | (go_at_call 49; refine (unhide CEV).mono ?_; rintro e w2 ⟨rfl, hb2⟩; have B2 := hide hb2; have Q4 := V4.out.below hb2 (by omega); have h0 : w2.cell? ⟨w.heap.size, 0, none⟩ = some (.slice A0 n0 c0) := Q4.cell 0; have h1 : w2.cell? ⟨w.heap.size, 1, none⟩ = some (.slice A1 n1 c1) := Q4.cell 1; have h2 : w2.cell? ⟨w.heap.size, 2, none⟩ = some (.slice t.dig.ad n2 t.dig.c) := Q4.cell 2; have h3 : w2.cell? ⟨w.heap.size, 3, none⟩ = some (.slice t.cap.ad n3 t.cap.c) := Q4.cell 3; have h4 : w2.cell? ⟨w.heap.size, 4, none⟩ = some (.slice t.num.ad n4 t.num.c) := Q4.cell 4; have h5 : w2.cell? ⟨w.heap.size, 5, none⟩ = some (.slice t.fin.ad n5 t.fin.c) := Q4.cell 5; have h6 : w2.cell? ⟨w.heap.size, 6, none⟩ = some (.slice t.sw.ad n6 t.sw.c) := Q4.cell 6; clear hb2 Q4)
      | (go_at_call 10; refine (unhide CVA w2 (HV.out.trans (B2.out.mono HV.out.size))).mono ?_; rintro e w3 ⟨rfl, hb3⟩; have B3 := hide hb3; clear hb3))
        go_ret
        first
          | exact ⟨_, [], rfl, StepsAt.nil _, by rw [HF.out]; rfl, HV.out.trans (B2.out.mono HV.out.size)⟩
          | exact ⟨_, rfl, [], StepsAt.nil _, by rw [HF.out]; rfl, HV.out.trans (B2.out.mono HV.out.size)⟩
      | true =>
      by_cases hva0 : va = 0
      · subst hva0
        have HS2 := hide (show sts = Tb.next t s l q by rw [HS.out, if_pos ⟨hq0, hq1, rfl, rfl, rfl⟩]; simp)
        have HNX := hide (HN0.out q)
        have CPI := hide (CPI0.out q (by omega) rfl rfl)
        have CNU := hide (fun (hch : Tb.digit (Tb.at_ l q).2 = true) => CNU0.out (Tb.at_ l q).2 hch rfl)
        have HSW2 := hide (HSW.out rfl)
        clear HS CPI0 CNU0 HN0 HSW
        go_upto_region 3 with (first
      | (go_at_call 45; refine (unhide CLG _).mono ?_; rintro e w1 ⟨rfl, rfl⟩)
      | (go_at_call 49; refine (unhide CEV).mono ?_; rintro e w2 ⟨rfl, hb2⟩; have B2 := hide hb2; have Q4 := V4.out.below hb2 (by omega); have h0 : w2.cell? ⟨w.heap.size, 0, none⟩ = some (.slice A0 n0 c0) := Q4.cell 0; have h1 : w2.cell? ⟨w.heap.size, 1, none⟩ = some (.slice A1 n1 c1) := Q4.cell 1; have h2 : w2.cell? ⟨w.heap.size, 2, none⟩ = some (.slice t.dig.ad n2 t.dig.c) := Q4.cell 2; have h3 : w2.cell? ⟨w.heap.size, 3, none⟩ = some (.slice t.cap.ad n3 t.cap.c) := Q4.cell 3; have h4 : w2.cell? ⟨w.heap.size, 4, none⟩ = some (.slice t.num.ad n4 t.num.c) := Q4.cell 4; have h5 : w2.cell? ⟨w.heap.size, 5, none⟩ = some (.slice t.fin.ad n5 t.fin.c) := Q4.cell 5; have h6 : w2.cell? ⟨w.heap.size, 6, none⟩ = some (.slice t.sw.ad n6 t.sw.c) := Q4.cell 6; clear hb2 Q4)
      | (go_at_call 10; refine (unhide CVA w2 (HV.out.trans (B2.out.mono HV.out.size))).mono ?_; rintro e w3 ⟨rfl, hb3⟩; have B3 := hide hb3; clear hb3))
        have hb2s := B2.out.size
        have hb3s := B3.out.size
        have W3 := hide ((HV.out.trans (B2.out.mono HV.out.size)).trans (B3.out.mono (by omega)))
        have Q4 := hide ((V4.out.below B2.out (by omega)).below B3.out (by omega))
        have Q5 := hide ((V5.out.below B2.out hgV).below B3.out (by omega))
        have hw0 : w.heap.size + 1 < w3.heap.size := Q5.out.lt
        obtain ⟨ad, hA, hadb, hc0, hc1⟩ := reads_sym HR.out q (by rw [← HNL.out]; omega)
        subst hA
        have HEC := hide (sym_cells (Tb.at_ l q) w3 ad q (by rw [W3.out.cell (by rw [block_of_add]; exact hadb)]; exact hc0) (by rw [W3.out.cell (by rw [block_of_add]; exact hadb)]; exact hc1))
        have CDG := hide (fun W => digit_any (Tb.at_ l q).2 W)
        generalize Tb.at_ l q = x at *
        clear h0 h1 h2 h3 h4 h5 h6 k5 hc0 hc1 B2 B3 CEV CVA V4 V5 HV
        obtain ⟨xl, xc⟩ := x
        unfold VC at CDG CNU
        simp only [] at *
        go_upto_region 4 with (with_reducible refine wpList_load_at rfl 67 (.tmp 36) rfl (ad.add (q * 2)) rfl [.int .i64 xl, .int .u8 (xc.toNat : Int)] _ HEC.out Try.underlying67 rfl ?c1 ?_)
        case c1 => exact symInfo
        refine name_world fun X hX => ?_
        have X9 := hide (show Blk X w3.heap.size 67 #[.int .i64 xl, .int .u8 (xc.toNat : Int)] by rw [← hX.out]; exact Blk.new w3 _ _)
        have HX := hide (show Below w3.heap.size w3 X by rw [← hX.out]; exact below_alloc w3 _)
        have XW := hide (W3.out.trans (HX.out.mono (by omega)))
        have X4 := hide (Q4.out.below HX.out (by omega))
        have X5 := hide (Q5.out.below HX.out hw0)
        have hX9 := X9.out.lt
        have y0 : X.cell? ⟨w3.heap.size, 0, none⟩ = some (.int .i64 xl) := X9.out.cell 0
        have y1 : X.cell? ⟨w3.heap.size, 1, none⟩ = some (.int .u8 (xc.toNat : Int)) := X9.out.cell 1
        have z0 : X.cell? ⟨w.heap.size + 1, 0, none⟩ = some (.int .i64 sl) := X5.out.cell 0
        have z1 : X.cell? ⟨w.heap.size + 1, 1, none⟩ = some (.bool sn) := X5.out.cell 1
        have z2 : X.cell? ⟨w.heap.size + 1, 2, none⟩ = some (.bool si) := X5.out.cell 2
        have t0 : X.cell? ⟨w.heap.size, 0, none⟩ = some (.slice A0 n0 c0) := X4.out.cell 0
        have t1 : X.cell? ⟨w.heap.size, 1, none⟩ = some (.slice A1 n1 c1) := X4.out.cell 1
        have t2 : X.cell? ⟨w.heap.size, 2, none⟩ = some (.slice t.dig.ad n2 t.dig.c) := X4.out.cell 2
        have t3 : X.cell? ⟨w.heap.size, 3, none⟩ = some (.slice t.cap.ad n3 t.cap.c) := X4.out.cell 3
        have t4 : X.cell? ⟨w.heap.size, 4, none⟩ = some (.slice t.num.ad n4 t.num.c) := X4.out.cell 4
        have t5 : X.cell? ⟨w.heap.size, 5, none⟩ = some (.slice t.fin.ad n5 t.fin.c) := X4.out.cell 5
        have t6 : X.cell? ⟨w.heap.size, 6, none⟩ = some (.slice t.sw.ad n6 t.sw.c) := X4.out.cell 6
        clear hX HEC HX Q4 Q5
        by_cases hxl : xl = sl
        · have hne : (xl != sl) = false := by rw [hxl]; simp
          have HNX2 := hide (show sts = if Tb.digit xc then [Tb.number t s xc] else Tb.pieces (Tb.rulesOf t sl) t s l q by rw [HS2.out, HNX.out, if_neg (by simp [hxl])])
          clear HS2 HNX hxl
          cases hdg : Tb.digit xc with
          | true =>
            rw [hdg] at CDG
            have CN := hide (CNU.out hdg X XW.out)
            have HNX3 := hide (show sts = [Tb.number t s xc] by rw [HNX2.out, hdg]; rfl)
            clear hdg CNU CPI HNX2
            go_wp2_with (first
              | (go_at_call 54; refine (unhide CDG _).mono ?_; rintro e w4 ⟨rfl, rfl⟩)
              | (go_at_call 55; refine (unhide CN).mono ?_; rintro e w5 ⟨A', c', rfl, hbs, hb5⟩; have HBS := hide hbs; have B5 := hide (XW.out.trans (hb5.mono XW.out.size)); clear hbs hb5))
            go_ret
            have hst := steps_one ⟨Tb.number t s xc, A', c'⟩ w5 HBS.out
            have hlx : (Tb.number t s xc).to.lang = sl := HSL.out
            first
              | exact ⟨_, [⟨Tb.number t s xc, A', c'⟩], rfl, by have e := hst; unfold spC at e; rw [hlx] at e; exact e, by rw [HNX3.out]; rfl, below_alloc' w5 _ B5.out.size |> B5.out.trans⟩
              | exact ⟨_, rfl, [⟨Tb.number t s xc, A', c'⟩], by have e := hst; unfold spC at e; rw [hlx] at e; exact e, by rw [HNX3.out]; rfl, below_alloc' w5 _ B5.out.size |> B5.out.trans⟩
          | false =>
            rw [hdg] at CDG
            have CN := hide (CPI.out X XW.out)
            have HNX3 := hide (show sts = Tb.pieces (Tb.rulesOf t sl) t s l q by rw [HNX2.out, hdg]; rfl)
            clear hdg CNU CPI HNX2
            go_wp2_with (first
              | (go_at_call 54; refine (unhide CDG _).mono ?_; rintro e w4 ⟨rfl, rfl⟩)
              | (go_at_call 56; refine (unhide CN).mono ?_; rintro e w5 ⟨v', xs, rfl, hst, hxs, hb5⟩; have HST := hide hst; have HXS := hide hxs; have B5 := hide (XW.out.trans (hb5.mono XW.out.size)); clear hst hxs hb5))
            go_ret
            first
              | exact ⟨_, xs, rfl, HST.out, by rw [HXS.out, HNX3.out], B5.out⟩
              | exact ⟨_, rfl, xs, HST.out, by rw [HXS.out, HNX3.out], B5.out⟩
        · have hne : (xl != sl) = true := by rw [bne_iff_ne]; exact hxl
          have HNX2 := hide (show sts = [⟨⟨xl, false, false⟩, 0, t.sw.l, -1⟩] by rw [HS2.out, HNX.out, if_pos (by simpa using hxl)])
          clear HS2 HNX hxl CNU CPI CDG
          go_upto_region 5 with fail
          obtain ⟨sad, hsad, hsb, _⟩ := HSWB.out.1.2 (by have := HSW2.out; omega)
          have HSWX := hide (show Reads X X.heap.size 1 (some sad) t.sw.l.length (BV t.sw.l) by rw [← hsad]; exact (HSWB.out.1.below XW.out).more XW.out.size)
          rw [hsad] at t6
          clear hsad hsb y1 z0 z1 z2 t0 t1 t2 t3 t4 t5
          have hgX4 := X4.out.lt
          have X4c := hide (show X.cell? ⟨w.heap.size, 6, none⟩ = some (.slice (some sad) n6 t.sw.c) from t6)
          have X9c := hide (show X.cell? ⟨w3.heap.size, 0, none⟩ = some (.int .i64 xl) from y0)
          have HS := hide (show ∀ W, Below X.heap.size X W → W.cell? ⟨w3.heap.size, 0, none⟩ = some (.int .i64 xl) ∧ W.cell? ⟨w.heap.size, 6, none⟩ = some (.slice (some sad) n6 t.sw.c) from fun W hb => ⟨by rw [hb.cell (by exact hX9)]; exact X9c.out, by rw [hb.cell (by exact hgX4)]; exact X4c.out⟩)
          have hn64 : n6 ≤ 4 := by have := HSW2.out; have := HN6.out; omega
          clear y0 t6 X4 X5 X9 X4c X9c
          generalize w3.heap.size = g9 at *
          refine wp_region_held_till (fun W => W.cell? ⟨g9, 0, none⟩ = some (.int .i64 xl) ∧ W.cell? ⟨w.heap.size, 6, none⟩ = some (.slice (some sad) n6 t.sw.c)) 8 (by kernel_rfl) ?_
          obtain ⟨W0, hW0⟩ : ∃ W0, W0 = X.drew := ⟨_, rfl⟩
          have HB0 := hide (show Below X.heap.size X W0 by rw [hW0]; exact (Below.refl _ _).drew)
          rw [← hW0]
          clear hW0
          refine heldTill_take 0 (.pointer (some ⟨g9, 0, none⟩)) rfl (by kernel_rfl) (by kernel_rfl) (by kernel_rfl) (by kernel_rfl) (fun _ _ _ h => h) ?_ (HS.out _ HB0.out) ?_
          · rw [if_pos (by rfl)]
            rintro W ⟨r0, r1⟩
            go_simp
          try simp only [Act.put, List.getElem_toArray, List.getElem_cons_succ, List.getElem_cons_zero, List.setIfInBounds_toArray, List.set_cons_zero, List.set_cons_succ]
          refine heldTill_take 1 (.int .i64 xl) rfl (by kernel_rfl) (by kernel_rfl) (by kernel_rfl) (by kernel_rfl) (fun _ _ _ h => h) ?_ (HS.out _ HB0.out) ?_
          · rw [if_pos (by rfl)]
            rintro W ⟨r0, r1⟩
            go_simp
          try simp only [Act.put, List.getElem_toArray, List.getElem_cons_succ, List.getElem_cons_zero, List.setIfInBounds_toArray, List.set_cons_zero, List.set_cons_succ]
          refine heldTill_take 2 (.agg #[.int .i64 xl, .bool false, .bool false]) rfl (by kernel_rfl) (by kernel_rfl) (by kernel_rfl) (by kernel_rfl) (fun _ _ _ h => h) ?_ (HS.out _ HB0.out) ?_
          · rw [if_pos (by rfl)]
            rintro W ⟨r0, r1⟩
            go_simp
          try simp only [Act.put, List.getElem_toArray, List.getElem_cons_succ, List.getElem_cons_zero, List.setIfInBounds_toArray, List.set_cons_zero, List.set_cons_succ]
          refine heldTill_take 3 (.pointer (some ⟨w.heap.size, 6, none⟩)) rfl (by kernel_rfl) (by kernel_rfl) (by kernel_rfl) (by kernel_rfl) (fun _ _ _ h => h) ?_ (HS.out _ HB0.out) ?_
          · rw [if_pos (by rfl)]
            rintro W ⟨r0, r1⟩
            go_simp
          try simp only [Act.put, List.getElem_toArray, List.getElem_cons_succ, List.getElem_cons_zero, List.setIfInBounds_toArray, List.set_cons_zero, List.set_cons_succ]
          refine heldTill_take 4 (.slice (some sad) n6 t.sw.c) rfl (by kernel_rfl) (by kernel_rfl) (by kernel_rfl) (by kernel_rfl) (fun _ _ _ h => h) ?_ (HS.out _ HB0.out) ?_
          · rw [if_pos (by rfl)]
            rintro W ⟨r0, r1⟩
            go_simp
          try simp only [Act.put, List.getElem_toArray, List.getElem_cons_succ, List.getElem_cons_zero, List.setIfInBounds_toArray, List.set_cons_zero, List.set_cons_succ]
          refine heldTill_only 5 (by kernel_rfl) ?_
          refine wpOp_step rfl (fun K' hK => ?_)
          go_simp
          go_at_call 53
          rw [HN6.out]
          refine (clone_any sad t.sw.c t.sw.l W0 ((HSWX.out.below HB0.out).more HB0.out.size) (by have := HN6.out; omega)).mono ?_
          rintro e N ⟨A', c', rfl, hbs3, hb3⟩
          have HN := hide (HB0.out.trans (hb3.mono HB0.out.size))
          have HBS3 := hide hbs3
          clear hbs3 hb3
          refine hK _ _ ⟨fun _ => HS.out _ HN.out, ?_⟩
          clear hK K'
          try simp only [Act.put, List.getElem_toArray, List.getElem_cons_succ, List.getElem_cons_zero, List.setIfInBounds_toArray, List.set_cons_zero, List.set_cons_succ]
          refine heldTill_only 6 (by kernel_rfl) ?_
          refine wpOp_step rfl (fun K' hK => ?_)
          go_simp
          refine hK _ _ ⟨fun _ => HS.out _ HN.out, ?_⟩
          clear hK K'
          try simp only [Act.put, List.getElem_toArray, List.getElem_cons_succ, List.getElem_cons_zero, List.setIfInBounds_toArray, List.set_cons_zero, List.set_cons_succ]
          refine heldTill_only 7 (by kernel_rfl) ?_
          refine wpOp_step rfl (fun K' hK => ?_)
          go_simp
          have hst := steps_one ⟨⟨⟨xl, false, false⟩, 0, t.sw.l, -1⟩, A', c'⟩ N HBS3.out
          obtain ⟨O, hO⟩ : ∃ O, O = N.alloc (.cells #[.int .i64 xl, .bool false, .bool false, .int .i64 0, .slice A' t.sw.l.length c', .int .i64 (-1)] 69) := ⟨_, rfl⟩
          have HST := hide (show StepsAt O (.slice (some ⟨N.heap.size, 0, none⟩) 1 1) [⟨⟨⟨xl, false, false⟩, 0, t.sw.l, -1⟩, A', c'⟩] by rw [hO]; exact hst)
          have HO := hide (show Below X.heap.size X O by rw [hO]; exact HN.out.trans (below_alloc' N _ HN.out.size))
          rw [← hO]
          clear hO hst
          refine hK _ _ ⟨fun _ => HS.out _ HO.out, ?_⟩
          clear hK K'
          try simp only [Act.put, List.getElem_toArray, List.getElem_cons_succ, List.getElem_cons_zero, List.setIfInBounds_toArray, List.set_cons_zero, List.set_cons_succ]
          refine heldTill_only 8 (by kernel_rfl) ?_
          refine wpOp_step rfl (fun K' hK => ?_)
          go_simp
          refine hK _ _ ⟨fun h => absurd rfl h, heldTill_done (by kernel_rfl) ?_⟩
          clear hK K'
          go_wp2
          go_ret
          first
            | exact ⟨_, [⟨⟨⟨xl, false, false⟩, 0, t.sw.l, -1⟩, A', c'⟩], rfl, HST.out, by rw [HNX2.out]; rfl, XW.out.trans (HO.out.mono XW.out.size)⟩
            | exact ⟨_, rfl, [⟨⟨⟨xl, false, false⟩, 0, t.sw.l, -1⟩, A', c'⟩], HST.out, by rw [HNX2.out]; rfl, XW.out.trans (HO.out.mono XW.out.size)⟩
      · have HF := hide (show sts = [] by rw [HS.out, if_neg (by simp [hva0])])
        have hne : (va != 0) = true := by rw [bne_iff_ne]; exact hva0
        clear HS CPI0 CNU0
        go_wp2_with (first
      | (go_at_call 45; refine (unhide CLG _).mono ?_; rintro e w1 ⟨rfl, rfl⟩)
      | (go_at_call 49; refine (unhide CEV).mono ?_; rintro e w2 ⟨rfl, hb2⟩; have B2 := hide hb2; have Q4 := V4.out.below hb2 (by omega); have h0 : w2.cell? ⟨w.heap.size, 0, none⟩ = some (.slice A0 n0 c0) := Q4.cell 0; have h1 : w2.cell? ⟨w.heap.size, 1, none⟩ = some (.slice A1 n1 c1) := Q4.cell 1; have h2 : w2.cell? ⟨w.heap.size, 2, none⟩ = some (.slice t.dig.ad n2 t.dig.c) := Q4.cell 2; have h3 : w2.cell? ⟨w.heap.size, 3, none⟩ = some (.slice t.cap.ad n3 t.cap.c) := Q4.cell 3; have h4 : w2.cell? ⟨w.heap.size, 4, none⟩ = some (.slice t.num.ad n4 t.num.c) := Q4.cell 4; have h5 : w2.cell? ⟨w.heap.size, 5, none⟩ = some (.slice t.fin.ad n5 t.fin.c) := Q4.cell 5; have h6 : w2.cell? ⟨w.heap.size, 6, none⟩ = some (.slice t.sw.ad n6 t.sw.c) := Q4.cell 6; clear hb2 Q4)
      | (go_at_call 10; refine (unhide CVA w2 (HV.out.trans (B2.out.mono HV.out.size))).mono ?_; rintro e w3 ⟨rfl, hb3⟩; have B3 := hide hb3; clear hb3))
        go_ret
        first
          | exact ⟨_, [], rfl, StepsAt.nil _, by rw [HF.out]; rfl, (HV.out.trans (B2.out.mono HV.out.size)).trans (B3.out.mono (HV.out.trans (B2.out.mono HV.out.size)).size)⟩
          | exact ⟨_, rfl, [], StepsAt.nil _, by rw [HF.out]; rfl, (HV.out.trans (B2.out.mono HV.out.size)).trans (B3.out.mono (HV.out.trans (B2.out.mono HV.out.size)).size)⟩
end Go.Proofs.Ytbcfndhnopmbbaa
