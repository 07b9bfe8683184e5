package stmt_test

import (
	"math"
	"slices"
	"strings"
	"testing"

	"marline/api"
	"marline/lex"
	"marline/stmt"
	"marline/tree"
)

// fails are texts that are not read, and the first token with which what is read
// so far can't go on.
var fails = []struct {
	line, src string
	end       int
}{
	{"stmt", "", 0}, {"stmt", "$", 0}, {"stmt", ";", 0}, {"stmt", "}", 0}, {"stmt", "=", 0}, {"stmt", "( a )", 0}, {"stmt", "[ 1 ] = 1 ;", 0},
	{"stmt", "1 = 2 ;", 0}, {"stmt", "true = 1 ;", 0}, {"stmt", "- a ;", 0}, {"stmt", "int a ;", 0}, {"stmt", "fork f ( ) ;", 0}, {"stmt", "new P ( ) ;", 0},
	{"stmt", "else { }", 0}, {"stmt", "by a ;", 0}, {"stmt", "rec P { a int ; }", 0}, {"stmt", "iso x int ;", 0}, {"stmt", "fun f ( ) { }", 0}, {"stmt", "main { }", 0},
	{"stmt", "merge m ( a int , b int , c int ) { }", 0}, {"stmt", ". x = 1 ;", 0},
	{"stmt", "{", 1}, {"stmt", "{ $ }", 1}, {"stmt", "{ ; }", 1}, {"stmt", "{ )", 1}, {"stmt", "{ 1 }", 1}, {"stmt", "{ else }", 1}, {"stmt", "{ rec", 1}, {"stmt", "{ main { } }", 1},
	{"stmt", "{ { }", 3}, {"stmt", "{ { } ;", 3}, {"stmt", "{ return ; $ }", 3}, {"stmt", "{ x = 1 ; 2", 5}, {"stmt", "{ { { } } ]", 5}, {"stmt", "{ x }", 2}, {"stmt", "{ x = 1 }", 4},
	{"stmt", "var", 1}, {"stmt", "var $ a = 1 ;", 1}, {"stmt", "var 1 = 2 ;", 1}, {"stmt", "var int = 2 ;", 1}, {"stmt", "var var a = 1 ;", 1}, {"stmt", "var = 1 ;", 1}, {"stmt", "var ( a ) = 1 ;", 1},
	{"stmt", "var a", 2}, {"stmt", "var a $ = 1 ;", 2}, {"stmt", "var a ;", 2}, {"stmt", "var a int = 1 ;", 2}, {"stmt", "var a [ 1 ] = 2 ;", 2}, {"stmt", "var a . b = 2 ;", 2}, {"stmt", "var a == 1 ;", 2}, {"stmt", "var a , b = 1 ;", 2}, {"stmt", "var f ( ) ;", 2},
	{"stmt", "var a =", 3}, {"stmt", "var a = $ ;", 3}, {"stmt", "var a = ;", 3}, {"stmt", "var a = = 1 ;", 3}, {"stmt", "var a = int ;", 3}, {"stmt", "var a = { } ;", 3}, {"stmt", "var a = if ;", 3},
	{"stmt", "var a = 1", 4}, {"stmt", "var a = 1 $ ;", 4}, {"stmt", "var a = 1 , 2 ;", 4}, {"stmt", "var a = 1 }", 4}, {"stmt", "var a = 1 = 2 ;", 4}, {"stmt", "var a = 1 +", 5}, {"stmt", "var a = 1 + ;", 5}, {"stmt", "var a = b < c < d ;", 6}, {"stmt", "var a = ( 1 ;", 5}, {"stmt", "var a = f ( 1 ;", 6},
	{"stmt", "x", 1}, {"stmt", "x $ = 1 ;", 1}, {"stmt", "x ;", 1}, {"stmt", "x + 1 = 2 ;", 1}, {"stmt", "x == 1 ;", 1}, {"stmt", "x , y = 1 ;", 1}, {"stmt", "x y = 1 ;", 1}, {"stmt", "x 1 ;", 1}, {"stmt", "x { }", 1}, {"stmt", "x ) ;", 1}, {"stmt", "x ] ;", 1}, {"stmt", "x int ;", 1}, {"stmt", "x - 1 ;", 1}, {"stmt", "x || y ;", 1}, {"stmt", "x !", 1},
	{"stmt", "x [", 2}, {"stmt", "x [ $ ] = 1 ;", 2}, {"stmt", "x [ ] = 1 ;", 2}, {"stmt", "x [ = 1 ;", 2}, {"stmt", "x [ int ] = 1 ;", 2}, {"stmt", "x [ 1", 3}, {"stmt", "x [ 1 $ ] = 1 ;", 3}, {"stmt", "x [ 1 ) = 1 ;", 3}, {"stmt", "x [ 1 , 2 ] = 1 ;", 3}, {"stmt", "x [ 1 = 1 ;", 3}, {"stmt", "x [ 1 + ] = 1 ;", 4}, {"stmt", "x [ y [ 1 ] = 1 ;", 6},
	{"stmt", "x [ 1 ]", 4}, {"stmt", "x [ 1 ] $ = 1 ;", 4}, {"stmt", "x [ 1 ] ;", 4}, {"stmt", "x [ 1 ] ( ) ;", 4}, {"stmt", "x [ 1 ] + 1 = 2 ;", 4}, {"stmt", "x [ 1 ] y = 1 ;", 4}, {"stmt", "x [ 1 ] == 1 ;", 4}, {"stmt", "x [ 1 ] ]", 4},
	{"stmt", "x .", 2}, {"stmt", "x . $ y = 1 ;", 2}, {"stmt", "x . 1 = 1 ;", 2}, {"stmt", "x . int = 1 ;", 2}, {"stmt", "x . . y = 1 ;", 2}, {"stmt", "x . [ 1 ] = 1 ;", 2}, {"stmt", "x . ( y ) = 1 ;", 2}, {"stmt", "x . = 1 ;", 2}, {"stmt", "x . main = 1 ;", 2},
	{"stmt", "x . y", 3}, {"stmt", "x . y $ = 1 ;", 3}, {"stmt", "x . y ;", 3}, {"stmt", "x . y ( ) ;", 3}, {"stmt", "x . y * 2 = 1 ;", 3}, {"stmt", "x . y z = 1 ;", 3}, {"stmt", "x . y [ 1 ] .", 7}, {"stmt", "x . y [ 1 ] . 2", 7},
	{"stmt", "x =", 2}, {"stmt", "x = $ ;", 2}, {"stmt", "x = ;", 2}, {"stmt", "x = = 1 ;", 2}, {"stmt", "x = bool ;", 2}, {"stmt", "x = * 1 ;", 2}, {"stmt", "x = }", 2}, {"stmt", "x = return ;", 2},
	{"stmt", "x = 1", 3}, {"stmt", "x = 1 $ ;", 3}, {"stmt", "x = 1 2 ;", 3}, {"stmt", "x = 1 , 2 ;", 3}, {"stmt", "x = y = 1 ;", 3}, {"stmt", "x = 1 )", 3}, {"stmt", "x = 1 }", 3}, {"stmt", "x = f ( ) { }", 5}, {"stmt", "x = 1 -", 4}, {"stmt", "x = fork ;", 3}, {"stmt", "x = new P ;", 4}, {"stmt", "x = f ( a , ) ;", 6},
	{"stmt", "f (", 2}, {"stmt", "f ( $ ) ;", 2}, {"stmt", "f ( ; )", 2}, {"stmt", "f ( , ) ;", 2}, {"stmt", "f ( int ) ;", 2}, {"stmt", "f ( a", 3}, {"stmt", "f ( a ;", 3}, {"stmt", "f ( a b ) ;", 3}, {"stmt", "f ( a = 1 ) ;", 3}, {"stmt", "f ( a , ) ;", 4}, {"stmt", "f ( a ]", 3},
	{"stmt", "f ( )", 3}, {"stmt", "f ( ) $ ;", 3}, {"stmt", "f ( ) . x = 1 ;", 3}, {"stmt", "f ( ) [ 1 ] = 1 ;", 3}, {"stmt", "f ( ) = 1 ;", 3}, {"stmt", "f ( ) + 1 ;", 3}, {"stmt", "f ( ) ( ) ;", 3}, {"stmt", "f ( ) { }", 3}, {"stmt", "f ( ) }", 3}, {"stmt", "f ( a ) , b", 4},
	{"stmt", "if", 1}, {"stmt", "if $ a { }", 1}, {"stmt", "if { }", 1}, {"stmt", "if ; { }", 1}, {"stmt", "if ( ) { }", 2}, {"stmt", "if if a { }", 1}, {"stmt", "if a", 2}, {"stmt", "if a $ { }", 2}, {"stmt", "if a ; { }", 2}, {"stmt", "if a = b { }", 2}, {"stmt", "if a x = 1 ;", 2}, {"stmt", "if a if b { }", 2}, {"stmt", "if a else { }", 2}, {"stmt", "if a + { }", 3}, {"stmt", "if a < b < c { }", 4}, {"stmt", "if ( a { }", 3}, {"stmt", "if a }", 2},
	{"stmt", "if a {", 3}, {"stmt", "if a { $ }", 3}, {"stmt", "if a { ; }", 3}, {"stmt", "if a { else }", 3}, {"stmt", "if a { x = 1 }", 6}, {"stmt", "if a { } else", 5}, {"stmt", "if a { } else $", 5}, {"stmt", "if a { } else ;", 5}, {"stmt", "if a { } else else { }", 5}, {"stmt", "if a { } else x = 1 ;", 5}, {"stmt", "if a { } else while b { }", 5}, {"stmt", "if a { } else }", 5},
	{"stmt", "if a { } else {", 6}, {"stmt", "if a { } else { $", 6}, {"stmt", "if a { } else if", 6}, {"stmt", "if a { } else if {", 6}, {"stmt", "if a { } else if b ;", 7}, {"stmt", "if a { } else if b {", 8}, {"stmt", "if a { } else if b { } else ;", 10},
	{"stmt", "while", 1}, {"stmt", "while $ a { }", 1}, {"stmt", "while { }", 1}, {"stmt", "while ;", 1}, {"stmt", "while while a { }", 1}, {"stmt", "while a", 2}, {"stmt", "while a $ { }", 2}, {"stmt", "while a ;", 2}, {"stmt", "while a = b { }", 2}, {"stmt", "while a x = 1 ;", 2}, {"stmt", "while a while b { }", 2}, {"stmt", "while a {", 3}, {"stmt", "while a { $ }", 3}, {"stmt", "while a { int }", 3}, {"stmt", "while a * { }", 3},
	{"stmt", "return", 1}, {"stmt", "return $ ;", 1}, {"stmt", "return }", 1}, {"stmt", "return { } ;", 1}, {"stmt", "return int ;", 1}, {"stmt", "return return ;", 1}, {"stmt", "return = 1 ;", 1}, {"stmt", "return , ;", 1}, {"stmt", "return ) ;", 1}, {"stmt", "return + 1 ;", 1},
	{"stmt", "return a", 2}, {"stmt", "return a $ ;", 2}, {"stmt", "return a }", 2}, {"stmt", "return a , b ;", 2}, {"stmt", "return a b ;", 2}, {"stmt", "return a = 1 ;", 2}, {"stmt", "return - ;", 2}, {"stmt", "return a || ;", 3},
	{"stmt", "join", 1}, {"stmt", "join $ h ;", 1}, {"stmt", "join ;", 1}, {"stmt", "join 1 ;", 1}, {"stmt", "join ( h ) ;", 1}, {"stmt", "join main ;", 1}, {"stmt", "join join h ;", 1}, {"stmt", "join fork f ( ) ;", 1}, {"stmt", "join h", 2}, {"stmt", "join h $ ;", 2}, {"stmt", "join h [ 1 ] ;", 2}, {"stmt", "join h . x ;", 2}, {"stmt", "join h , k ;", 2}, {"stmt", "join h ( ) ;", 2}, {"stmt", "join h + 1 ;", 2}, {"stmt", "join h }", 2},
	{"stmt", "print", 1}, {"stmt", "print $ 1 ;", 1}, {"stmt", "print ;", 1}, {"stmt", "print int ;", 1}, {"stmt", "print { } ;", 1}, {"stmt", "print print 1 ;", 1}, {"stmt", "print = 1 ;", 1}, {"stmt", "print 1", 2}, {"stmt", "print 1 $ ;", 2}, {"stmt", "print 1 , 2 ;", 2}, {"stmt", "print 1 2 ;", 2}, {"stmt", "print 1 }", 2}, {"stmt", "print a = 1 ;", 2}, {"stmt", "print ( )", 2},
	{"decl", "", 0}, {"decl", "$", 0}, {"decl", "main { }", 0}, {"decl", "a", 0}, {"decl", "{ }", 0}, {"decl", "var a = 1 ;", 0}, {"decl", "int x ;", 0}, {"decl", ";", 0}, {"decl", "7", 0}, {"decl", "P { a int ; }", 0}, {"decl", "by f", 0},
	{"decl", "rec", 1}, {"decl", "rec $ P", 1}, {"decl", "rec 1", 1}, {"decl", "rec int { a int ; }", 1}, {"decl", "rec rec", 1}, {"decl", "rec { a int ; }", 1}, {"decl", "rec P", 2}, {"decl", "rec P $", 2}, {"decl", "rec P ( a int )", 2}, {"decl", "rec P a int ;", 2}, {"decl", "rec P ;", 2}, {"decl", "rec P [ 1 ]", 2},
	{"decl", "rec P {", 3}, {"decl", "rec P { $ }", 3}, {"decl", "rec P { }", 3}, {"decl", "rec P { ; }", 3}, {"decl", "rec P { 1 int ; }", 3}, {"decl", "rec P { int a ; }", 3}, {"decl", "rec P { a", 4}, {"decl", "rec P { a $ int ; }", 4}, {"decl", "rec P { a ; }", 4}, {"decl", "rec P { a , b int ; }", 4}, {"decl", "rec P { a 1 ; }", 4}, {"decl", "rec P { a [ 3 ] int ; }", 5}, {"decl", "rec P { a [ ] ; }", 6}, {"decl", "rec P { a fun ; }", 4}, {"decl", "rec P { a = int ; }", 4},
	{"decl", "rec P { a int", 5}, {"decl", "rec P { a int $ ; }", 5}, {"decl", "rec P { a int }", 5}, {"decl", "rec P { a int , b int ; }", 5}, {"decl", "rec P { a int b int ; }", 5}, {"decl", "rec P { a int ;", 6}, {"decl", "rec P { a int ; $ }", 6}, {"decl", "rec P { a int ; ; }", 6}, {"decl", "rec P { a int ; int b ; }", 6}, {"decl", "rec P { a int ; b", 7}, {"decl", "rec P { a int ; b }", 7}, {"decl", "rec P { a int ; b bool }", 8}, {"decl", "rec P { a int ; b bool ; )", 9},
	{"decl", "iso", 1}, {"decl", "iso $ x int ;", 1}, {"decl", "iso 1", 1}, {"decl", "iso int x ;", 1}, {"decl", "iso iso x int ;", 1}, {"decl", "iso [ 3 ] int ;", 1}, {"decl", "iso x", 2}, {"decl", "iso x $ int ;", 2}, {"decl", "iso x ;", 2}, {"decl", "iso x 3 int ;", 2}, {"decl", "iso x = 1 ;", 2}, {"decl", "iso x , y int ;", 2}, {"decl", "iso x by f ;", 2}, {"decl", "iso x true ;", 2}, {"decl", "iso x ( 3 ) int ;", 2}, {"decl", "iso x ] int ;", 2},
	{"decl", "iso x [", 3}, {"decl", "iso x [ $ ] int ;", 3}, {"decl", "iso x [ 0 ] int ;", 3}, {"decl", "iso x [ 00 ] int ;", 3}, {"decl", "iso x [ a ] int ;", 3}, {"decl", "iso x [ - 1 ] int ;", 3}, {"decl", "iso x [ ( 1 ) ] int ;", 3}, {"decl", "iso x [ true ] int ;", 3}, {"decl", "iso x [ [ 1 ] ] int ;", 3}, {"decl", "iso x [ int ] ;", 3}, {"decl", "iso x [ ;", 3}, {"decl", "iso x [ )", 3},
	{"decl", "iso x [ 3", 4}, {"decl", "iso x [ 3 $ ] int ;", 4}, {"decl", "iso x [ 3 + 1 ] int ;", 4}, {"decl", "iso x [ 3 ) int ;", 4}, {"decl", "iso x [ 3 3 ] int ;", 4}, {"decl", "iso x [ 3 , 3 ] int ;", 4}, {"decl", "iso x [ 3 . a ] int ;", 4}, {"decl", "iso x [ 3 [ 1 ] ] int ;", 4},
	{"decl", "iso x [ 3 ]", 5}, {"decl", "iso x [ 3 ] $ int ;", 5}, {"decl", "iso x [ 3 ] ;", 5}, {"decl", "iso x [ 3 ] 3 ;", 5}, {"decl", "iso x [ 3 ] by f ;", 5}, {"decl", "iso x [ 3 ] [ 3 ] int ;", 6}, {"decl", "iso x [ 3 ] [ ] ;", 7}, {"decl", "iso x [ 3 ] ]", 5}, {"decl", "iso x [ ]", 4}, {"decl", "iso x [ ] ;", 4}, {"decl", "iso x [ ] [ 3 ] int ;", 5}, {"decl", "iso x [ ] 3", 4},
	{"decl", "iso x int", 3}, {"decl", "iso x int $ ;", 3}, {"decl", "iso x int int ;", 3}, {"decl", "iso x int = 1 ;", 3}, {"decl", "iso x int [ 3 ] ;", 3}, {"decl", "iso x int , y int ;", 3}, {"decl", "iso x int }", 3}, {"decl", "iso x P f ;", 3}, {"decl", "iso x P ( ) ;", 3}, {"decl", "iso x P . y ;", 3}, {"decl", "iso x [ 3 ] int [ ] ;", 6},
	{"decl", "iso x int by", 4}, {"decl", "iso x int by $ f ;", 4}, {"decl", "iso x int by ;", 4}, {"decl", "iso x int by 1 ;", 4}, {"decl", "iso x int by by f ;", 4}, {"decl", "iso x int by merge ;", 4}, {"decl", "iso x int by ( f ) ;", 4}, {"decl", "iso x int by f", 5}, {"decl", "iso x int by f $ ;", 5}, {"decl", "iso x int by f ( ) ;", 5}, {"decl", "iso x int by f , g ;", 5}, {"decl", "iso x int by f . g ;", 5}, {"decl", "iso x int by f by g ;", 5}, {"decl", "iso x int by f }", 5},
	{"decl", "fun", 1}, {"decl", "fun $ f ( ) { }", 1}, {"decl", "fun 1", 1}, {"decl", "fun main ( ) { }", 1}, {"decl", "fun fun f ( ) { }", 1}, {"decl", "fun ( ) { }", 1}, {"decl", "fun f", 2}, {"decl", "fun f $ ( ) { }", 2}, {"decl", "fun f { }", 2}, {"decl", "fun f int { }", 2}, {"decl", "fun f [ ] { }", 2}, {"decl", "fun f ) { }", 2}, {"decl", "fun f ;", 2},
	{"decl", "fun f (", 3}, {"decl", "fun f ( $ ) { }", 3}, {"decl", "fun f ( , ) { }", 3}, {"decl", "fun f ( int a ) { }", 3}, {"decl", "fun f ( 1 ) { }", 3}, {"decl", "fun f ( ( a int ) ) { }", 3}, {"decl", "fun f ( ; ) { }", 3}, {"decl", "fun f ( ]", 3}, {"decl", "fun f ( a", 4}, {"decl", "fun f ( a $ int ) { }", 4}, {"decl", "fun f ( a ) { }", 4}, {"decl", "fun f ( a , b int ) { }", 4}, {"decl", "fun f ( a 1 ) { }", 4}, {"decl", "fun f ( a [ 3 ] int ) { }", 5}, {"decl", "fun f ( a [ ] ) { }", 6}, {"decl", "fun f ( a = 1 ) { }", 4},
	{"decl", "fun f ( a int", 5}, {"decl", "fun f ( a int $ ) { }", 5}, {"decl", "fun f ( a int ; b int ) { }", 5}, {"decl", "fun f ( a int b int ) { }", 5}, {"decl", "fun f ( a int ] { }", 5}, {"decl", "fun f ( a int }", 5}, {"decl", "fun f ( a int ,", 6}, {"decl", "fun f ( a int , $ ) { }", 6}, {"decl", "fun f ( a int , ) { }", 6}, {"decl", "fun f ( a int , , b int ) { }", 6}, {"decl", "fun f ( a int , int ) { }", 6}, {"decl", "fun f ( a int , b ) { }", 7}, {"decl", "fun f ( a int , b int", 8}, {"decl", "fun f ( a int , b int , ) { }", 9},
	{"decl", "fun f ( )", 4}, {"decl", "fun f ( ) $ { }", 4}, {"decl", "fun f ( ) ;", 4}, {"decl", "fun f ( ) 1 { }", 4}, {"decl", "fun f ( ) return 1 ;", 4}, {"decl", "fun f ( ) ( ) { }", 4}, {"decl", "fun f ( ) }", 4}, {"decl", "fun f ( ) , { }", 4}, {"decl", "fun f ( ) true { }", 4}, {"decl", "fun f ( ) [ 3 ] int { }", 5}, {"decl", "fun f ( ) [ ] { }", 6}, {"decl", "fun f ( ) int", 5}, {"decl", "fun f ( ) int $ { }", 5}, {"decl", "fun f ( ) int ;", 5}, {"decl", "fun f ( ) int int { }", 5}, {"decl", "fun f ( ) int main { }", 5}, {"decl", "fun f ( ) P ( ) { }", 5}, {"decl", "fun f ( ) P [ 1 ]", 5},
	{"decl", "fun f ( ) {", 5}, {"decl", "fun f ( ) { $ }", 5}, {"decl", "fun f ( ) { ; }", 5}, {"decl", "fun f ( ) int { return }", 7}, {"decl", "fun f ( ) { { }", 7}, {"decl", "fun f ( ) { rec", 5},
	{"decl", "merge", 1}, {"decl", "merge $ m", 1}, {"decl", "merge 1", 1}, {"decl", "merge ( a int , b int , c int ) { }", 1}, {"decl", "merge merge m", 1}, {"decl", "merge m", 2}, {"decl", "merge m $", 2}, {"decl", "merge m { }", 2}, {"decl", "merge m [", 2}, {"decl", "merge m int", 2}, {"decl", "merge m (", 3}, {"decl", "merge m ( $", 3}, {"decl", "merge m ( ) { }", 3}, {"decl", "merge m ( , ) { }", 3}, {"decl", "merge m ( int a )", 3}, {"decl", "merge m ( 7", 3},
	{"decl", "merge m ( a", 4}, {"decl", "merge m ( a )", 4}, {"decl", "merge m ( a , b int )", 4}, {"decl", "merge m ( a $ int", 4}, {"decl", "merge m ( a [ 3", 5}, {"decl", "merge m ( a int", 5}, {"decl", "merge m ( a int ) { }", 5}, {"decl", "merge m ( a int $ ,", 5}, {"decl", "merge m ( a int ; b int", 5}, {"decl", "merge m ( a int b int", 5}, {"decl", "merge m ( a int ,", 6}, {"decl", "merge m ( a int , )", 6}, {"decl", "merge m ( a int , $", 6}, {"decl", "merge m ( a int , , b int", 6}, {"decl", "merge m ( a int , int b", 6},
	{"decl", "merge m ( a int , b", 7}, {"decl", "merge m ( a int , b )", 7}, {"decl", "merge m ( a int , b int", 8}, {"decl", "merge m ( a int , b int ) { }", 8}, {"decl", "merge m ( a int , b int $", 8}, {"decl", "merge m ( a int , b int ; c int )", 8}, {"decl", "merge m ( a int , b int ,", 9}, {"decl", "merge m ( a int , b int , )", 9}, {"decl", "merge m ( a int , b int , c", 10}, {"decl", "merge m ( a int , b int , c )", 10}, {"decl", "merge m ( a int , b int , c int", 11}, {"decl", "merge m ( a int , b int , c int ,", 11}, {"decl", "merge m ( a int , b int , c int , d int ) { }", 11}, {"decl", "merge m ( a int , b int , c int $ )", 11}, {"decl", "merge m ( a int , b int , c int ] { }", 11},
	{"decl", "merge m ( a int , b int , c int )", 12}, {"decl", "merge m ( a int , b int , c int ) $ { }", 12}, {"decl", "merge m ( a int , b int , c int ) int { }", 12}, {"decl", "merge m ( a int , b int , c int ) ;", 12}, {"decl", "merge m ( a int , b int , c int ) {", 13}, {"decl", "merge m ( a int , b int , c int ) { $ }", 13}, {"decl", "merge m ( a int , b int , c int ) { return a }", 15},
	{"program", "", 0}, {"program", "$", 0}, {"program", "a $", 0}, {"program", "{ } $", 0}, {"program", "x = 1 ; $", 0}, {"program", "var a = 1 ; main { } $", 0}, {"program", "; main { } $", 0}, {"program", "$ main { } $", 0}, {"program", "int $", 0}, {"program", "7 $", 0},
	{"program", "main", 1}, {"program", "main $", 1}, {"program", "main ; $", 1}, {"program", "main ( ) { } $", 1}, {"program", "main main { } $", 1}, {"program", "main a { } $", 1}, {"program", "main $ { } $", 1}, {"program", "main x = 1 ; $", 1}, {"program", "main if a { } $", 1}, {"program", "main } $", 1},
	{"program", "main {", 2}, {"program", "main { $", 2}, {"program", "main { ; } $", 2}, {"program", "main { $ } $", 2}, {"program", "main { rec P { a int ; } } $", 2}, {"program", "main { main { } } $", 2}, {"program", "main { x = 1 } $", 5}, {"program", "main { { } $", 4}, {"program", "main { { }", 4},
	{"program", "main { }", 3}, {"program", "main { } a $", 3}, {"program", "main { } ; $", 3}, {"program", "main { } } $", 3}, {"program", "main { } main { } $", 3}, {"program", "main { } rec P { a int ; } $", 3}, {"program", "main { } else { } $", 3}, {"program", "main { } $ $", 3}, {"program", "main { } $ a", 3}, {"program", "main { } $ a $", 3}, {"program", "main { } a", 3}, {"program", "main { } $ main { } $", 3}, {"program", "main { } { } $", 3},
	{"program", "rec P { } main { } $", 3}, {"program", "rec P { a int ; }", 7}, {"program", "rec P { a int ; } $", 7}, {"program", "rec P { a int ; } ; main { } $", 7}, {"program", "rec P { a int ; } { } $", 7}, {"program", "rec P { a int ; } P { } $", 7}, {"program", "iso x int main { } $", 3}, {"program", "iso x int ; $", 4}, {"program", "iso x int ; $ main { } $", 4}, {"program", "fun f ( ) { } $", 6}, {"program", "fun f ( ) { } int main { } $", 6}, {"program", "fun f ( ) int main { } $", 5}, {"program", "merge m ( a int , b int ) { } main { } $", 8}, {"program", "iso x int ; iso y", 6}, {"program", "iso x int ; fun main ( ) { } $", 5}, {"program", "iso x int ; main", 5},
}

// TestFails: 14.1, 14.2, the first token with which what is read so far can't go
// on, at each place of each line.
func TestFails(t *testing.T) {
	for _, x := range fails {
		holds(t, x.line, row(x.src), 0, "", x.end)
		alike(t, x.line, row(x.src), 0)
		if x.line != "program" {
			holds(t, x.line, placed(row("x = "), row(x.src)), 2, "", x.end+2)
		}
	}
}

// TestInside: 14.1, 14.2, the same within what has others in it.
func TestInside(t *testing.T) {
	for _, around := range []string{"{ ", "{ x = 1 ; { ", "while a { ", "if a { ", "if a { } else { ", "if a { } else if b { ", "{ if a { } "} {
		for _, x := range fails {
			l := row(around + x.src)
			closed, decl := strings.HasPrefix(x.src, "}"), strings.HasPrefix(x.src, "else")
			if x.line == "stmt" && !closed && !decl {
				first := len(row(around))
				holds(t, "stmt", l, 0, "", first+x.end)
				holds(t, "decl", placed(row("fun f ( )"), l), 0, "", 4+wrapped(around, first+x.end))
				holds(t, "program", placed(row("iso x int ; main {"), l, row("$")), 0, "", 6+first+x.end)
			}
			alike(t, "stmt", l, 0)
		}
	}
	for _, around := range []string{"iso x int ; ", "fun f ( ) { } ", "rec P { a int ; } merge m ( a int , b int , c int ) { } "} {
		for _, x := range fails {
			if x.line == "decl" && !strings.HasPrefix(x.src, "main") {
				l := row(around + x.src)
				holds(t, "program", l, 0, "", len(row(around))+x.end)
			}
		}
	}
}

// wrapped is the number told of a text that is no block behind a function's
// params: that of its first token.
func wrapped(around string, end int) int {
	if around[0] != '{' {
		return 0
	}
	return end
}

// TestStops: 14.1, what is read ends ahead of the first token with which it
// can't go on.
func TestStops(t *testing.T) {
	for _, x := range []struct {
		line, src, want string
		end             int
	}{
		{"stmt", "{ } ;", "block@0", 2},
		{"stmt", "{ } }", "block@0", 2},
		{"stmt", "{ } { }", "block@0", 2},
		{"stmt", "var a = 1 ; ;", "var:a@0(#1@3)", 5},
		{"stmt", "x = 1 ; x = 2 ;", "set@1(x@0 #1@2)", 4},
		{"stmt", "x = 1 ; }", "set@1(x@0 #1@2)", 4},
		{"stmt", "x = 1 ; $", "set@1(x@0 #1@2)", 4},
		{"stmt", "f ( ) ; + 1", "do@0(call:f@0)", 4},
		{"stmt", "if a { } if b { }", "if@0(a@1 block@2)", 4},
		{"stmt", "if a { } ; else { }", "if@0(a@1 block@2)", 4},
		{"stmt", "if a { } $ else { }", "if@0(a@1 block@2)", 4},
		{"stmt", "if a { } else { } else { }", "if@0(a@1 block@2 block@5)", 7},
		{"stmt", "if a { } [ 1 ] = 2 ;", "if@0(a@1 block@2)", 4},
		{"stmt", "while a { } else { }", "while@0(a@1 block@2)", 4},
		{"stmt", "return ; return ;", "return@0", 2},
		{"stmt", "return a ; b", "return@0(a@1)", 3},
		{"stmt", "join h ; h", "join:h@0", 3},
		{"stmt", "print a ; main", "print@0(a@1)", 3},
		{"decl", "rec P { a int ; } ;", "rec:P@0(param:a@3(int@4))", 7},
		{"decl", "rec P { a int ; } b int ; }", "rec:P@0(param:a@3(int@4))", 7},
		{"decl", "iso x int ; by f ;", "iso:x@0(int@2)", 4},
		{"decl", "iso x int ; iso y int ;", "iso:x@0(int@2)", 4},
		{"decl", "fun f ( ) { } { }", "fun:f@0(none@- block@4)", 6},
		{"decl", "fun f ( ) { } else", "fun:f@0(none@- block@4)", 6},
		{"decl", "fun f ( ) int { } int", "fun:f@0(int@4 block@5)", 7},
		{"decl", "merge m ( a int , b int , c int ) { } main { }", "merge:m@0(param:a@3(int@4) param:b@6(int@7) param:c@9(int@10) block@12)", 14},
	} {
		holds(t, x.line, row(x.src), 0, x.want, x.end)
		alike(t, x.line, row(x.src), 0)
	}
}

// TestPlaces: 14.1, from a token on that is not there, and of no tokens; 14.2, of
// no tokens.
func TestPlaces(t *testing.T) {
	for _, l := range [][]api.Token{nil, {}, row("$"), row("{ }"), row("x = 1 ;"), row("iso x int ;"), row("main { } $"), row("{ { x = 1 ; } }")} {
		for _, line := range []string{"stmt", "decl"} {
			for _, i := range []int{len(l), len(l) + 1, len(l) + 2, len(l) + 100, -1, -2, -3, -100, math.MinInt, math.MinInt + 1, math.MaxInt, math.MaxInt - 1, 1 << 32, -1 << 32} {
				holds(t, line, l, i, "", i)
			}
			for i := range l {
				alike(t, line, l, i)
			}
		}
	}
	holds(t, "program", nil, 0, "", 0)
	holds(t, "program", []api.Token{}, 0, "", 0)
}

// TestEnds: 14.2, the last token is of the kind TokEnd, whatever its text, and
// no other one is; without one it is told how many tokens there are.
func TestEnds(t *testing.T) {
	for _, src := range []string{"main { }", "rec P { a int ; } main { x = 1 ; }", "fun f ( a int ) int { return a ; } main { if a { } else { } }"} {
		l := row(src)
		p, _ := told("program", placed(l, row("$")), 0)
		want := look(node(p, l))
		holds(t, "program", l, 0, "", len(l))
		for _, k := range ends() {
			end := []api.Token{k}
			holds(t, "program", placed(l, end), 0, want, len(l))
			holds(t, "program", placed(l, end, end), 0, "", len(l))
			for i := range l {
				holds(t, "program", placed(l[:i], end, l[i:], end), 0, "", i)
				holds(t, "program", placed(l[:i], end, l[i+1:], end), 0, "", i)
				holds(t, "program", placed(l[:i], end), 0, "", i)
			}
		}
		for i := range l {
			holds(t, "program", l[:i], 0, "", i)
		}
	}
}

// TestStrange: 14.1, 14.2, tokens that no source has, ahead of which there is
// each beginning.
func TestStrange(t *testing.T) {
	ahead := map[string][]string{
		"stmt": {"", "{", "{ {", "{ { }", "var", "var a", "var a =", "var a = 1", "x", "x [", "x [ 1", "x [ 1 ]", "x .", "x . y", "x =", "x = 1", "f (", "f ( a", "f ( a ,", "f ( )", "if", "if a", "if a {", "if a { } else", "if a { } else {", "if a { } else if", "if a { } else if b", "while", "while a", "while a {",
			"return", "return 1", "join", "join h", "print", "print 1"},
		"decl": {"", "rec", "rec P", "rec P {", "rec P { a", "rec P { a [", "rec P { a [ ]", "rec P { a int", "rec P { a int ;", "iso", "iso x", "iso x [", "iso x [ 3", "iso x [ 3 ]", "iso x [ 3 ] [", "iso x [ ]", "iso x int", "iso x int by", "iso x int by f",
			"fun", "fun f", "fun f (", "fun f ( a", "fun f ( a int", "fun f ( a int ,", "fun f ( )", "fun f ( ) [", "fun f ( ) int", "fun f ( ) {", "merge", "merge m", "merge m (", "merge m ( a", "merge m ( a int", "merge m ( a int ,", "merge m ( a int , b", "merge m ( a int , b int", "merge m ( a int , b int ,", "merge m ( a int , b int , c", "merge m ( a int , b int , c int", "merge m ( a int , b int , c int )", "merge m ( a int , b int , c int ) {"},
		"program": {"", "main", "main {", "main { {", "main { { }", "main { }", "iso x int ;", "fun f ( ) { }", "fun f ( ) { } main", "fun f ( ) { } main { }"},
	}
	for line, all := range ahead {
		for _, src := range all {
			l := row(src)
			for _, k := range strange() {
				holds(t, line, placed(l, []api.Token{k}, row("{ } $")), 0, "", len(l))
			}
			for _, k := range ends() {
				holds(t, line, placed(l, []api.Token{k}, row("{ } $")), 0, "", len(l))
			}
		}
	}
}

// TestOdd: 14.1, 14.2, tokens that no source has, but of which the chapter tells
// what they are: at any place, numbers with any text, and others with any number.
func TestOdd(t *testing.T) {
	l := []api.Token{{Kind: 3, At: -5, N: 12, Text: "iso"}, {Kind: 1, At: math.MinInt, N: -1, Text: "x"}, {Kind: 4, At: -5, N: 9, Text: "["}, {Kind: 2, At: 1, N: math.MaxInt, Text: "0"}, {Kind: 4, At: 3, Text: "]"},
		{Kind: 3, At: math.MaxInt, N: 1, Text: "rev"}, {Kind: 3, At: 1, N: 1, Text: "by"}, {Kind: 1, At: -7, N: 5, Text: "f"}, {Kind: 4, N: 1, Text: ";"}}
	n, i, e := stmt.Decl(l, 0)
	if i != 9 || e != api.OK || n.Kind != api.Iso || n.At != -5 || n.N != math.MaxInt || n.Name != "x" || len(n.Kids) != 2 {
		t.Fatal(n, i, e)
	}
	x, y := n.Kids[0], n.Kids[1]
	if x.Kind != api.TypRev || x.At != math.MaxInt || x.N != 0 || y.Kind != api.Name || y.At != -7 || y.N != 0 || y.Name != "f" || len(x.Kids)+len(y.Kids) != 0 {
		t.Error(n)
	}
	l = []api.Token{{Kind: 1, At: 6, N: 4, Text: "x"}, {Kind: 4, At: 2, N: 3, Text: "="}, {Kind: 2, At: 2, N: 8, Text: ";"}, {Kind: 4, At: -9, N: 3, Text: ";"}}
	n, i, e = stmt.Stmt(l, 0)
	if i != 4 || e != api.OK || n.Kind != api.Set || n.At != 2 || n.N != 0 || n.Name != "" || len(n.Kids) != 2 || n.Kids[0].At != 6 || n.Kids[1].N != 8 {
		t.Error(n, i, e)
	}
	for _, x := range shapes {
		l := row(x.src)
		for i := range l {
			switch {
			case l[i].Kind != 2:
				l[i].N = 3 - i
			case i%2 == 0:
				l[i].Text = ""
			default:
				l[i].Text = "}"
			}
		}
		holds(t, x.line, l, 0, x.want, whole(x.line, l))
	}
}

// TestNames: 14.1, 14.3, names of each byte, first and behind others, wherever a
// name must stand: what lex tells as no name is none.
func TestNames(t *testing.T) {
	places := []struct{ line, ahead, behind, want string }{
		{"stmt", "", "= 1 ;", "set@1(NAME@0 #1@2)"},
		{"stmt", "", "( ) ;", "do@0(call:NAME@0)"},
		{"stmt", "var", "= 1 ;", "var:NAME@0(#1@3)"},
		{"stmt", "x .", "= 1 ;", "set@3(.NAME@1(x@0) #1@4)"},
		{"stmt", "join", ";", "join:NAME@0"},
		{"decl", "rec", "{ a int ; }", "rec:NAME@0(param:a@3(int@4))"},
		{"decl", "rec P {", "int ; }", "rec:P@0(param:NAME@3(int@4))"},
		{"decl", "rec P { a", "; }", "rec:P@0(param:a@3(of:NAME@4))"},
		{"decl", "iso", "int ;", "iso:NAME@0(int@2)"},
		{"decl", "iso x int by", ";", "iso:x@0(int@2 NAME@4)"},
		{"decl", "fun", "( ) { }", "fun:NAME@0(none@- block@4)"},
		{"decl", "fun f (", "int ) { }", "fun:f@0(param:NAME@3(int@4) none@- block@6)"},
		{"decl", "fun f ( a int ,", "int ) { }", "fun:f@0(param:a@3(int@4) param:NAME@6(int@7) none@- block@9)"},
		{"decl", "fun f ( )", "{ }", "fun:f@0(of:NAME@4 block@5)"},
		{"decl", "merge", "( a int , b int , c int ) { }", "merge:NAME@0(param:a@3(int@4) param:b@6(int@7) param:c@9(int@10) block@12)"},
		{"decl", "merge m ( a int ,", "int , c int ) { }", "merge:m@0(param:a@3(int@4) param:NAME@6(int@7) param:c@9(int@10) block@12)"},
	}
	names := []string{"", rep("a", 32), rep("a", 33), "_", "Z9_z", "ints", "If", "mainx", "elsewhere", "a b"}
	for b := range 256 {
		s := string([]byte{byte(b)})
		names = append(names, s, "a"+s, rep("Z", 31)+s, "9"+s)
	}
	for _, s := range append(names, strings.Fields(words)...) {
		cuts, _, e := lex.All(s)
		right := e == api.OK && len(cuts) == 2 && cuts[0].Kind == api.TokName && cuts[0].Text == s
		for _, x := range places {
			l := row(x.ahead)
			name := len(l)
			l = placed(l, []api.Token{tok(1, s)}, row(x.behind))
			if right {
				holds(t, x.line, l, 0, strings.Replace(x.want, "NAME", s, 1), len(l))
			} else {
				holds(t, x.line, l, 0, "", name)
			}
		}
	}
}

// TestKinds: 14.1, 14.2, each token of each of these with another kind.
func TestKinds(t *testing.T) {
	for _, x := range shapes {
		l := row(x.src)
		for i := range l {
			for _, kind := range []int{0, 1, 2, 3, 4, 5, -1} {
				other := slices.Clone(l)
				other[i].Kind = kind
				alike(t, x.line, other, 0)
			}
		}
	}
}

// TestNotSame: 14.3, what is read is of one sort alone.
func TestNotSame(t *testing.T) {
	for _, x := range shapes {
		n, _, _ := read(x.line, row(x.src), 0)
		if tree.Stmt(n) != (x.line == "stmt") || tree.Decl(n) != (x.line == "decl") || tree.Prog(n) != (x.line == "program") || tree.Expr(n) || tree.Type(n) {
			t.Error(x.src)
		}
	}
}
