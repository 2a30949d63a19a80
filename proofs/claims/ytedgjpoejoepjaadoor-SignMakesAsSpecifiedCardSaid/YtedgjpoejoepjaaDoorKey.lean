/-
  The two function literals that leaf is called with, by contract.
-/
import Derived.Test.YtedgjpoejoepjaaDoorAdv
namespace Go.Proofs.YtedgjpoejoepjaaDoor
open Go.RowKit
set_option linter.unusedVariables false
set_option linter.unusedSimpArgs false

theorem adv03_any (i c : Int) (v : List UInt8) (w : World) (hi : Wr.inI i) (hc : Wr.inI c) (hv : v.length = 16) (hK : KLaid w) :
    Calls Tryd.prog 27 #[.agg #[.int .i64 i, .int .i64 c], .agg (BV v).toArray, .int .i64 0, .int .i64 3] w fun e w' => e = .returned (.agg (BV (Sg.adv i c v 0 3)).toArray) ∧ Below w.heap.size w w' := advance_any i c v 0 3 w hi hc hv (by omega) hK
theorem advTo_any (i c : Int) (v : List UInt8) (d : Nat) (w : World) (hd : d ≤ 3) (hi : Wr.inI i) (hc : Wr.inI c) (hv : v.length = 16) (hK : KLaid w) :
    Calls Tryd.prog 27 #[.agg #[.int .i64 i, .int .i64 c], .agg (BV v).toArray, .int .i64 0, .int .i64 (d : Int)] w fun e w' => e = .returned (.agg (BV (Sg.adv i c v 0 d)).toArray) ∧ Below w.heap.size w w' := by
  have := advance_any i c v 0 d w hi hc hv (by omega) hK
  rw [Nat.zero_add] at this
  exact this
theorem advFrom_any (i c : Int) (v : List UInt8) (d : Nat) (w : World) (hd : d ≤ 3) (hi : Wr.inI i) (hc : Wr.inI c) (hv : v.length = 16) (hK : KLaid w) :
    Calls Tryd.prog 27 #[.agg #[.int .i64 i, .int .i64 c], .agg (BV v).toArray, .int .i64 (d : Int), .int .i64 3] w fun e w' => e = .returned (.agg (BV (Sg.adv i c v d (3 - d))).toArray) ∧ Below w.heap.size w w' := by
  have := advance_any i c v d (3 - d) w hi hc hv (by omega) hK
  rw [show d + (3 - d) = 3 by omega] at this
  exact this

set_option maxHeartbeats 2000000 in
set_option maxRecDepth 100000 in
theorem keyval_any (gi gs : Nat) (s : List UInt8) (i c : Int) (w : World) (hbi : Blk w gi 3 #[.int .i64 i]) (hbs : Blk w gs 9 #[.string (S s)]) (hs : s.length = 32) (hi : Wr.inI i) (hc : Wr.inI c) (hK : KLaid w) :
    Calls Tryd.prog 45 #[.int .i64 c, .pointer (some ⟨gi, 0, none⟩), .pointer (some ⟨gs, 0, none⟩)] w fun e w' => e = .returned (.agg (BV (Sg.top s i c)).toArray) ∧ Below w.heap.size w w' := by
  have hsl := Sg.start_len s i c
  have hlen := Sg.top_len s i c
  have htop : Sg.adv i c (Sg.start s i c) 0 3 = Sg.top s i c := rfl
  have CS := hide (fun (W : World) hK => start_any s i c W hs hi hc hK)
  have CA := hide (fun (W : World) hK => adv03_any i c (Sg.start s i c) W hi hc hsl hK)
  rw [htop] at CA
  generalize Sg.top s i c = D at *
  generalize Sg.start s i c = V0 at *
  have HK := hide hK
  have HPL := hide hlen
  have HBI := hide hbi
  have HBS := hide hbs
  have hci : w.cell? ⟨gi, 0, none⟩ = some (.int .i64 i) := hbi.cell 0
  have hgi := hbi.lt
  have hgs := hbs.lt
  have hzs := zero16
  clear hsl hlen htop hs hi hc hK hbi hbs
  go_enter Tryd.func45, Tryd.ntmps45
  go_upto_region 2 with fail
  refine name_world fun V hV => ?_
  have D4 := hide (show Dig V w.heap.size Z16 by rw [← hV.out]; exact (Dig.new w Z16 rfl).alloc _)
  have C5 := hide (show Blk V (w.heap.size + 1) 54 #[.int .i64 i, .int .i64 c] by
    rw [← hV.out]
    have := Blk.new (w.alloc (.cells (BV Z16).toArray 23)) 54 #[.int .i64 i, .int .i64 c]
    rwa [show (w.alloc (.cells (BV Z16).toArray 23)).heap.size = w.heap.size + 1 by simp] at this)
  have HV := hide (show Below w.heap.size w V by rw [← hV.out]; exact ((Below.refl _ _).alloc (Nat.le_refl _) _).alloc (by simp) _)
  have E2 := hide (show Blk V gs 9 #[.string (S s)] from HBS.out.below HV.out hgs)
  clear hV hzs hci
  have h4 := D4.out.2.lt
  have h5 := C5.out.lt
  have h2 := E2.out.lt
  have W0 := Below.refl V.heap.size V
  have HH := hide (fun (W' : World) (h : Blk W' (w.heap.size + 1) 54 #[.int .i64 i, .int .i64 c]) (h' : Blk W' gs 9 #[.string (S s)]) => (show W'.cell? ⟨w.heap.size + 1, 0, none⟩ = some (.int .i64 i) ∧ W'.cell? ⟨w.heap.size + 1, 1, none⟩ = some (.int .i64 c) ∧ W'.cell? ⟨gs, 0, none⟩ = some (.string (S s)) from ⟨h.cell 0, h.cell 1, h'.cell 0⟩))
  have HA := hide (fun (W' : World) (hb : Below V.heap.size V W') => C5.out.below hb h5)
  have HB := hide (fun (W' : World) (hb : Below V.heap.size V W') => E2.out.below hb h2)
  have HR := hide (fun (W' : World) (hb : Below V.heap.size V W') => D4.out.below hb h4)
  have HKV := hide (fun (W' : World) (hb : Below V.heap.size V W') => HK.out.below (HV.out.trans (hb.mono HV.out.size)) (Nat.le_refl _))
  have hone : ∀ v ∈ BV D, v.oneCell' = true := BV_one D
  have hsz : Option.map (fun x => x.size) (Tryd.prog.info? 23) = some (BV D).length := by rw [BV_len, HPL.out]; exact size16
  go_region_held (fun w' => w'.cell? ⟨w.heap.size + 1, 0, none⟩ = some (.int .i64 i) ∧ w'.cell? ⟨w.heap.size + 1, 1, none⟩ = some (.int .i64 c) ∧ w'.cell? ⟨gs, 0, none⟩ = some (.string (S s)))
    (first | exact unhide HH _ (unhide HA _ W0.drew) (unhide HB _ W0.drew) | exact unhide HH _ (unhide HA _ hX1) (unhide HB _ hX1) | exact unhide HH _ (unhide HA _ hX2) (unhide HB _ hX2) | exact unhide HH _ ((unhide HA _ hX2).farCells _ _ (by omega)) ((unhide HB _ hX2).farCells _ _ (by omega)))
    (first
      | (go_at_call 28; (with_reducible refine (unhide CS V.drew (unhide HKV _ W0.drew)).mono ?_); rintro e x1 ⟨rfl, hb1⟩; have hX1 : Below V.heap.size V x1 := from_here W0.drew hb1)
      | (go_at_call 27; (with_reducible refine (unhide CA x1 (unhide HKV _ hX1)).mono ?_); rintro e x2 ⟨rfl, hb2⟩; have hX2 : Below V.heap.size V x2 := from_here hX1 hb2; have ht2 : x2.there w.heap.size 0 (BV D).length := (unhide HR x2 hX2).2.there_ 0 _ (by rw [BV_len, BV_len, (unhide HR x2 hX2).1, HPL.out]; decide)))
  have F4 := hide (show Dig (x2.setCells w.heap.size 0 (BV D)) w.heap.size D from (unhide HR _ hX2).stored HPL.out)
  have HB2 := hide (show Below w.heap.size w (x2.setCells w.heap.size 0 (BV D)) from below_setCells (Nat.le_refl _) _ _ _ (HV.out.trans (hX2.mono HV.out.size)))
  clear hone hsz
  go_wp2
  exact bodyPost_ret (v := .agg (BV D).toArray) (ret_dig Tryd.results45 _ rfl F4.out) rfl ⟨rfl, HB2.out⟩

set_option maxHeartbeats 2000000 in
set_option maxRecDepth 100000 in
theorem keyver_any (gi gr gd gg : Nat) (r : List UInt8) (i : Int) (c d : Nat) (ds : Array Value) (td : TypeId) (w : World) (hbi : Blk w gi 3 #[.int .i64 i]) (hbr : Blk w gr 9 #[.string (S r)]) (hbd : Blk w gd 25 #[.slice (some ⟨gg, 0, none⟩) 68 68]) (hbg : Blk w gg td ds) (hd : ds[c]? = some (.int .i64 (d : Int)))
    (hc : c < 68) (hd3 : d ≤ 3) (hr : 16 * (c + 1) ≤ r.length) (hrl : r.length ≤ 1099511627776) (hi : Wr.inI i) (hK : KLaid w) :
    Calls Tryd.prog 38 #[.int .i64 (c : Int), .pointer (some ⟨gi, 0, none⟩), .pointer (some ⟨gr, 0, none⟩), .pointer (some ⟨gd, 0, none⟩)] w fun e w' => e = .returned (.agg (BV (Sg.adv i c (Sg.part r c) d (3 - d))).toArray) ∧ Below w.heap.size w w' := by
  have hpl := Sg.part_len r c hr
  have hlen := Sg.adv_len i c (Sg.part r c) d hpl (3 - d)
  have CP := hide (fun (W : World) => part_any r c W hr hrl)
  have CA := hide (fun (W : World) hK => advFrom_any i c (Sg.part r c) d W hd3 hi (by unfold Wr.inI; omega) hpl hK)
  generalize Sg.adv i c (Sg.part r c) d (3 - d) = D at *
  generalize Sg.part r c = P0 at *
  have HK := hide hK
  have HPL := hide hlen
  have HBI := hide hbi
  have HBR := hide hbr
  have HBD := hide hbd
  have HBG := hide hbg
  have HDS := hide hd
  have hgi := hbi.lt
  have hgr := hbr.lt
  have hgd := hbd.lt
  have hgg := hbg.lt
  have hc0 : (0 : Int) ≤ (c : Int) := by omega
  have hc1 : (c : Int) < 68 := by omega
  have hzs := zero16
  clear hpl hlen hr hrl hi hK hbi hbr hbd hbg hd
  go_enter Tryd.func38, Tryd.ntmps38
  go_upto_region 1 with fail
  refine name_world fun V hV => ?_
  have D5 := hide (show Dig V w.heap.size Z16 by rw [← hV.out]; exact Dig.new w Z16 rfl)
  have HV := hide (show Below w.heap.size w V by rw [← hV.out]; exact (Below.refl _ _).alloc (Nat.le_refl _) _)
  have E1 := hide (show Blk V gi 3 #[.int .i64 i] from HBI.out.below HV.out hgi)
  have E2 := hide (show Blk V gr 9 #[.string (S r)] from HBR.out.below HV.out hgr)
  have E3 := hide (show Blk V gd 25 #[.slice (some ⟨gg, 0, none⟩) 68 68] from HBD.out.below HV.out hgd)
  have E4 := hide (show Blk V gg td ds from HBG.out.below HV.out hgg)
  clear hV hzs
  have h5 := D5.out.2.lt
  have h1 := E1.out.lt
  have h2 := E2.out.lt
  have h3 := E3.out.lt
  have h4 := E4.out.lt
  have W0 := Below.refl V.heap.size V
  have HH := hide (fun (W' : World) (h1 : Blk W' gi 3 #[.int .i64 i]) (h2 : Blk W' gr 9 #[.string (S r)]) (h3 : Blk W' gd 25 #[.slice (some ⟨gg, 0, none⟩) 68 68]) (h4 : Blk W' gg td ds) => (show W'.cell? ⟨gi, 0, none⟩ = some (.int .i64 i) ∧ W'.cell? ⟨gr, 0, none⟩ = some (.string (S r)) ∧ W'.cell? ⟨gd, 0, none⟩ = some (.slice (some ⟨gg, 0, none⟩) 68 68) ∧ W'.cell? ⟨gg, c, none⟩ = some (.int .i64 (d : Int)) from ⟨h1.cell 0, h2.cell 0, h3.cell 0, by rw [h4.cell]; exact HDS.out⟩))
  have HA := hide (fun (W' : World) (hb : Below V.heap.size V W') => unhide HH W' (E1.out.below hb h1) (E2.out.below hb h2) (E3.out.below hb h3) (E4.out.below hb h4))
  have HS := hide (fun (W' : World) (cs : List Value) (hb : Below V.heap.size V W') => unhide HH (W'.setCells w.heap.size 0 cs) ((E1.out.below hb h1).farCells _ _ (by omega)) ((E2.out.below hb h2).farCells _ _ (by omega)) ((E3.out.below hb h3).farCells _ _ (by omega)) ((E4.out.below hb h4).farCells _ _ (by omega)))
  have HR := hide (fun (W' : World) (hb : Below V.heap.size V W') => D5.out.below hb h5)
  have HKV := hide (fun (W' : World) (hb : Below V.heap.size V W') => HK.out.below (HV.out.trans (hb.mono HV.out.size)) (Nat.le_refl _))
  have hone : ∀ v ∈ BV D, v.oneCell' = true := BV_one D
  have hsz : Option.map (fun x => x.size) (Tryd.prog.info? 23) = some (BV D).length := by rw [BV_len, HPL.out]; exact size16
  go_region_held (fun w' => w'.cell? ⟨gi, 0, none⟩ = some (.int .i64 i) ∧ w'.cell? ⟨gr, 0, none⟩ = some (.string (S r)) ∧ w'.cell? ⟨gd, 0, none⟩ = some (.slice (some ⟨gg, 0, none⟩) 68 68) ∧ w'.cell? ⟨gg, c, none⟩ = some (.int .i64 (d : Int)))
    (first | exact unhide HA _ W0.drew | exact unhide HA _ hX1 | exact unhide HA _ hX2 | exact unhide HS _ _ hX2)
    (first
      | (go_at_call 39; (with_reducible refine (unhide CP V.drew).mono ?_); rintro e x1 ⟨rfl, hb1⟩; have hX1 : Below V.heap.size V x1 := from_here W0.drew hb1)
      | (go_at_call 27; (with_reducible refine (unhide CA x1 (unhide HKV _ hX1)).mono ?_); rintro e x2 ⟨rfl, hb2⟩; have hX2 : Below V.heap.size V x2 := from_here hX1 hb2; have ht2 : x2.there w.heap.size 0 (BV D).length := (unhide HR x2 hX2).2.there_ 0 _ (by rw [BV_len, BV_len, (unhide HR x2 hX2).1, HPL.out]; decide)))
  have F4 := hide (show Dig (x2.setCells w.heap.size 0 (BV D)) w.heap.size D from (unhide HR _ hX2).stored HPL.out)
  have HB2 := hide (show Below w.heap.size w (x2.setCells w.heap.size 0 (BV D)) from below_setCells (Nat.le_refl _) _ _ _ (HV.out.trans (hX2.mono HV.out.size)))
  clear hone hsz
  go_wp2
  exact bodyPost_ret (v := .agg (BV D).toArray) (ret_dig Tryd.results38 _ rfl F4.out) rfl ⟨rfl, HB2.out⟩
end Go.Proofs.YtedgjpoejoepjaaDoor
