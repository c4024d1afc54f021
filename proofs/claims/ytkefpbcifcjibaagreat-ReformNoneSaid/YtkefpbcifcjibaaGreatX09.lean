/- Joined texts. -/
import Derived.Test.YtkefpbcifcjibaaGreatX04
import Derived.Test.YtkefpbcifcjibaaGreatG02a
import Derived.Test.YtkefpbcifcjibaaGreatG03a
import Derived.Test.YtkefpbcifcjibaaGreatG04a
import Derived.Test.YtkefpbcifcjibaaGreatG16a
import Derived.Test.YtkefpbcifcjibaaGreatG17a
import Derived.Test.YtkefpbcifcjibaaGreatG06a
import Derived.Test.YtkefpbcifcjibaaGreatG08a
import Derived.Test.YtkefpbcifcjibaaGreatG20a
import Derived.Test.YtkefpbcifcjibaaGreatG22b
import Derived.Test.YtkefpbcifcjibaaGreatG23b
set_option linter.unusedVariables false
set_option maxRecDepth 20000
set_option maxHeartbeats 16000000
namespace Go.Proofs.YtkefpbcifcjibaaGreat
open Go.ChangeShapes Go.WideShapes Go.ChangeAt Go.RowKit
section
variable {H:Type} {enc:TypeId × Value→H} {P:Program} {w:World} {base:Nat} {spare:Nat→Bool} {held:Bool}
theorem okWide_rec {r:Reach} {b0:Nat} {t:TypeId} {fs:Array Field} {v:Value} (ht:P.underlying t=some (.struct fs)) (h:Value.okWide P w r b0 t v):∃ cs,v=.agg cs∧cs.size=P.cellsOf t:=by
 simp only [Value.okWide,ht] at h
 obtain ⟨cs,h1,h2,_⟩:=h
 exact ⟨cs,h1,h2⟩
end
end Go.Proofs.YtkefpbcifcjibaaGreat
namespace Go.Proofs.YtkefpbcifcjibaaGreat
open Go.RowKit
section
variable {α β:Type} {mk:Option Addr→Nat→Value} {T:(Nat→Prop)→World→α→Prop} {U:(Nat→Prop)→World→β→Prop} {X G:Nat→Prop} {w w':World} {a a':α} {b:β} {x:An} {e:Ending} {P:Program} {fn:FuncId} {args:Array Value}
theorem solo_told (hT:Thing T) (h:Solo T X w a) (hc:∀ F:Nat→Prop,T F w a→(∀ k,X k→¬ F k)→Calls P fn args w fun e w'=>ToldBy mk T F w a' x e w') :
  Calls P fn args w fun e w'=>∃ (ao:Option Addr) (cap:Nat) (C:Nat→Prop),e=.returned (mk ao cap)∧CG C w' (.slice ao x.L.length cap) x.L∧Solo T (fun k=>X k∨C k) w' a'∧Kept X w w':=by
 obtain ⟨h1,F,h2,h3⟩:=h
 refine (hc F h2 h3).mono ?_
 rintro e w' ⟨ao,cap,C,rfl,hC,H,⟨F',r1,r2,rl,r3,r4⟩,r5,r6⟩
 refine ⟨ao,cap,C,rfl,r2,⟨fun k hk=>?_,F',r1,fun k hk hf=>?_⟩,r5.mono h3⟩
 ·rcases hk with hk | hk
  ·exact Nat.lt_of_lt_of_le (h1 k hk) r5.size
  ·exact rl k hk
 ·rcases hk with hk | hk
  ·rcases r6 k ((r4 k).2 (.inl hf)) with h | h
   ·exact h3 k hk h
   ·have:=h1 k hk;omega
  ·exact r3 k hk hf
end
end Go.Proofs.YtkefpbcifcjibaaGreat
namespace Go.Proofs.YtkefpbcifcjibaaGreat
open Go.ChangeShapes Go.WideShapes Go.ChangeAt Go.RowKit
section
variable {H:Type} {enc:TypeId × Value→H} {P:Program} {w:World} {base:Nat} {spare:Nat→Bool} {held:Bool}
theorem open_ans {r:Reach} {b0:Nat} {t ti ts tp tc te:TypeId} {v:Value} {d:DataW H} {p:List MemPlace} (T:AnsT P t ti ts tp tc te) (hv:Value.okWide P w r b0 t v) (h:DataW.Trod enc P w base spare held t v d p):∃ (x:An) (ao:Option Addr) (cap:Nat),v=ansV x ao cap∧AnIn w x ao cap:=by
 obtain ⟨fs,ht,_⟩:=T.ans
 obtain ⟨A,rfl,hsz⟩:=okWide_rec ht hv
 obtain ⟨fuel,hf⟩:=h
 rw [T.cells] at hsz
 simp only [Value.cells] at hf
 obtain ⟨x,ao,cap,e,h2⟩:=ans_cs T (by simpa using hsz) hf
 exact ⟨x,ao,cap,by unfold ansV;rw [← e],h2⟩
end
end Go.Proofs.YtkefpbcifcjibaaGreat
namespace Go.Proofs.YtkefpbcifcjibaaGreat
open Go.RowKit
section
variable {RG:Nat→(Nat→Prop)→World→Rf→Prop} {α:Type} {T:(Nat→Prop)→World→α→Prop} {X:Nat→Prop} {w w':World} {br:Nat} {r:Rf} {a:α}
end
section
variable {RG:Nat→(Nat→Prop)→World→Rf→Prop} {X:Nat→Prop} {w w':World} {br:Nat} {r:Rf}
theorem sro_new (RS:RfmSays RG) {ep:Int} {ao:Option Addr} {cap:Nat} {L:List (List Int)} (hX:∀ k,X k→k < w.heap.size) (hC:CL w ao L) (hf:fewL L) (hn:ao=none→cap=0) (hc:L.length≤cap) (he:i64w ep) :
  Calls Tryz.prog 10 #[.agg #[.int .i64 ep,.slice ao L.length cap]] w fun e w'=>∃ br:Nat,e=.returned (.pointer (some ⟨br,0,none⟩))∧Solo (RG br) X w' (newRf ep L)∧Below w.heap.size w w':=by
 refine (RS.new ep ao cap L w hC hf hn hc he).mono ?_
 rintro e w' ⟨br,G,h1,h2,h3,h4⟩
 exact ⟨br,h1,Solo.of h2 (fun k hk hg=>by have:=h3 k hg;have:=hX k hk;omega) (fun k hk=>Nat.lt_of_lt_of_le (hX k hk) h4.size),h4⟩
theorem sro_ask (RS:RfmSays RG) (hs:Solo (RG br) X w r) {kd un qe pg pe:Int} {s:ByteArray} {L:List (List Int)} (hq:r.ask=⟨kd,un,qe,pg,0,0,s,pe,L,none,0⟩) :
  Calls Tryz.prog 13 #[.pointer (some ⟨br,0,none⟩)] w fun e w'=>∃ (vo:Option Addr) (vc:Nat) (C:Nat→Prop),e=.returned (.tuple #[.agg #[.int .i64 kd,.int .i64 un,.int .i64 qe,.int .i64 pg,.int .i64 0,.int .i64 0,.string s,.int .i64 pe,.slice vo L.length vc],.bool r.asks])∧CG C w' (.slice vo L.length vc) L∧Solo (RG br) (fun k=>X k∨C k) w' r∧Kept X w w':=by
 refine (solo_told (RS.thing br) hs (fun G hG hX=>RS.ask br G w r hG)).mono ?_
 rintro e w' ⟨ao,cap,C,rfl,h1,h2,h3⟩
 refine ⟨ao,cap,C,?_,?_,h2,h3⟩
 ·unfold askedR
  rw [hq]
  rfl
 ·have:=h1
  rw [hq] at this
  exact this
theorem sro_skip (RS:RfmSays RG) (hs:Solo (RG br) X w r) :
  Calls Tryz.prog 19 #[.pointer (some ⟨br,0,none⟩)] w fun e w'=>e=.returned (.bool r.mays)∧Solo (RG br) X w' r.skip∧Kept X w w' :=
 solo_call (R:=fun e=>e=.returned (.bool r.mays)) (RS.thing br) hs (fun G hG=>RS.skip br G w r hG)
theorem sro_over (RS:RfmSays RG) (hs:Solo (RG br) X w r) :
  Calls Tryz.prog 15 #[.pointer (some ⟨br,0,none⟩)] w fun e w'=>e=.returned (.tuple #[.int .i64 r.overE,.bool r.overB])∧Solo (RG br) X w' r∧Below w.heap.size w w':=by
 obtain ⟨_,G,hG,_⟩:=id hs
 exact (RS.over br G w r hG).mono fun e w' ⟨he,hb⟩=>⟨he,hs.below (RS.thing br) hb,hb⟩
end
theorem mays_no {r:Rf} (h:r.at_≠2):r.mays=false:=by
 unfold Rf.mays
 rw [decide_eq_false h]
 rfl
end Go.Proofs.YtkefpbcifcjibaaGreat
